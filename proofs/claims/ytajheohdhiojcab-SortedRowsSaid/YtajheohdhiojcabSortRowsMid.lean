/- The law SortedRows, walked: it returns true, for any row of numbers and any three numbers; nothing that was there has turned. Condition: the numbers are ints. -/
import Derived.Test.YtajheohdhiojcabSortLives
import Derived.Test.YtajheohdhiojcabIntRows
namespace Go.Proofs.Ytajheohdhiojcab
open Go.RowKit

theorem empty_owns (w : World) : (w.alloc (.cells #[] 3)).ownsRow w.heap.size 3 1 (.slice (some ⟨w.heap.size, 0, none⟩) 0 0) 0 [] :=
  World.ownsRow_lit w #[] 0 (Nat.le_refl _) (by decide) rfl

theorem NewRow.keep {w w' w2 : World} {g : Nat} {zs : List Int} (h : NewRow w w' g zs) (hb : Below w'.heap.size w' w2) : Whole w2 3 g (vals zs) := h.2.1.keep hb

set_option maxHeartbeats 4000000 in
set_option maxRecDepth 100000 in
theorem sortedRows_mid (ao : Option Addr) (n c : Nat) (zs : List Int) (at_ : Nat) (x t : Int) (w : World) (hr : Rd w (.slice ao n c) (vals zs)) (hA : ao = none → c = 0) (hn : n ≤ 100) (hat : at_ < n) (ht0 : -9223372036854775808 ≤ t) (ht1 : t ≤ 9223372036854775807) :
    Calls Try.prog 3 #[.slice ao n c, .int .i64 at_, .int .i64 x, .int .i64 t] w fun e w' => e = .returned (.bool true) ∧ Below w.heap.size w w' := by
  have HR := Lib.hid (hr.keep (one_alloc w (.cells #[] 3)).2)
  have hi0 := hr.ints
  have hzl := hi0.1
  have hnc := hi0.2.1
  have hcb := hi0.2.2
  obtain ⟨i0, hi, hz0, hz1, hz2⟩ := info_parts infoInt
  have HI := Lib.hid (show _ ∧ _ ∧ _ ∧ _ from ⟨hi, hz0, hz1, hz2⟩)
  have HA := Lib.hid hA
  have HR0 := Lib.hid hr
  have HV := fun W => Lib.hid (lives04 W)
  clear hi0 hi hz0 hz1 hz2 hA hr
  have HAD := fun v W (h : Rd W v (vals zs)) => addI_yes v at_ x zs W h (by omega) (by omega)
  have HCU := fun v W (h : Rd W v (vals zs)) => cutI_yes v at_ zs W h (by omega) (by omega)
  have HSE := fun v W (h : Rd W v (vals zs)) => setI_yes v at_ x zs W h (by omega) (by omega)
  have hcut := len_cut (zs := zs) (at_ := at_) (by omega)
  have HPA := fun v W (h : Rd W v (vals zs)) => partI_any v at_ t zs W h (by omega)
  have HJO := fun v1 v2 W (h1 : Rd W v1 (vals zs)) (h2 : Rd W v2 (vals (partI zs (max (at_ : Int) 0).toNat (min t zs.length).toNat))) => joinI_any v1 v2 zs (partI zs (max (at_ : Int) 0).toNat (min t zs.length).toNat) W h1 h2 (by rw [len_part]; omega)
  have hpl := len_part zs (max (at_ : Int) 0).toNat (min t zs.length).toNat
  have hpl2 : (partI zs (max (at_ : Int) 0).toNat (min t zs.length).toNat).length = (min t zs.length).toNat - (max (at_ : Int) 0).toNat := by rw [hpl]; omega
  have HPN := Lib.hid (fun lo hi k (h : lo + k < hi) => nti_part (zs := zs) (lo := lo) (hi := hi) (k := k) h)
  obtain ⟨lo, hlo⟩ : ∃ lo, lo = (max (at_ : Int) 0).toNat := ⟨_, rfl⟩
  obtain ⟨hi, hhi⟩ : ∃ hi, hi = (min t (zs.length : Int)).toNat := ⟨_, rfl⟩
  rw [← hlo, ← hhi] at HPA HJO hpl2
  obtain ⟨Lp, hLp⟩ : ∃ Lp, Lp = (partI zs lo hi).length := ⟨_, rfl⟩
  rw [← hLp] at HJO hpl2
  rw [hzl] at hhi HAD HSE HJO
  rw [hzl] at hcut
  obtain ⟨LC, hLC⟩ : ∃ LC, LC = (cutI zs at_).length := ⟨_, rfl⟩
  rw [← hLC] at hcut HCU
  clear hLC
  have HZL := Lib.hid hzl
  have GAD := Lib.hid HAD
  have GCU := Lib.hid HCU
  have GSE := Lib.hid HSE
  have GPA := Lib.hid HPA
  have GJO := Lib.hid HJO
  have HLP := Lib.hid hLp
  have HLO := Lib.hid hlo
  have HHI := Lib.hid hhi
  have HPL := Lib.hid hpl2
  have hlpb : Lp ≤ 100 := by omega
  clear hpl hpl2 hLp hlo hhi HAD HCU HSE HPA HJO hzl
  go_enter Try.func3, Try.ntmps3
  go_wp2_with ((with_reducible show wpList _ _ _ (⟨some 27, _, _, _, _, _⟩ :: _) _ _); refine wpList_append_row _ rfl (.tmp 25) (.tmp 26) 22 rfl w.heap.size 3 i0 (.int .i64 0) 8 Try.underlying22 HI.out.1 HI.out.2.1 HI.out.2.2.1 HI.out.2.2.2 rfl (.slice (some ⟨w.heap.size, 0, none⟩) 0 0) 0 [] rfl (empty_owns w) ao n c (vals zs) rfl HA.out HR.out (vals_one _) (by unfold maxLen; omega) (by omega) (by simp) ?_; intro v1 w1 hown1 hgrow1)
  have hown := hown1
  rw [Nat.zero_add, List.nil_append] at hown
  have hr1 := rd_of_owns hown
  have R1 := Lib.hid hr1
  have B1 := Lib.hid ((one_alloc w (.cells #[] 3)).2.grown hgrow1 (by simp) (fun k hk => by simp [Value.ownBlock] at hk; omega))
  obtain ⟨a1, c1, hv1⟩ := hr1.open
  rw [vals_len, HZL.out] at hv1
  subst hv1
  clear hown hown1 hgrow1 hr1
  go_wp2_with fail
  refine (GAD.out _ _ R1.out).mono ?_
  rintro e w2 ⟨ga, rfl, hg2, hA2, hb2⟩
  have A2 := Lib.hid hA2
  have R2 := Lib.hid (R1.out.keep hb2)
  have B2 := Lib.hid (B1.out.trans (hb2.mono B1.out.size))
  clear hg2 hA2 hb2
  go_wp2_with fail
  refine (GCU.out _ _ R2.out).mono ?_
  rintro e w3 ⟨gb, rfl, hg3, hA3, hb3⟩
  have A3 := Lib.hid (A2.out.keep hb3)
  have C3 := Lib.hid hA3
  have R3 := Lib.hid (R2.out.keep hb3)
  have B3 := Lib.hid (B2.out.trans (hb3.mono B2.out.size))
  clear hg3 hA3 hb3
  go_wp2_with fail
  refine (GSE.out _ _ R3.out).mono ?_
  rintro e w4 ⟨gc, rfl, hg4, hA4, hb4⟩
  have A4 := Lib.hid (A3.out.keep hb4)
  have C4 := Lib.hid (C3.out.keep hb4)
  have D4 := Lib.hid hA4
  have R4 := Lib.hid (R3.out.keep hb4)
  have B4 := Lib.hid (B3.out.trans (hb4.mono B3.out.size))
  clear hg4 hA4 hb4
  go_wp2_with fail
  refine (GPA.out _ _ R4.out).mono ?_
  rintro e w5 ⟨v5, rfl, hp5⟩
  have hb5 := hp5.below
  have hr5 := hp5.rd (by rw [← HLP.out]; omega)
  have A5 := Lib.hid (A4.out.keep hb5)
  have C5 := Lib.hid (C4.out.keep hb5)
  have D5 := Lib.hid (D4.out.keep hb5)
  have R5 := Lib.hid (R4.out.keep hb5)
  have B5 := Lib.hid (B4.out.trans (hb5.mono B4.out.size))
  have P5 := Lib.hid hr5
  obtain ⟨pa, pc, hv5⟩ := hr5.open
  rw [vals_len, ← HLP.out] at hv5
  subst hv5
  clear hb5 hr5 hp5
  go_wp2_with fail
  refine (GJO.out _ _ _ R5.out P5.out).mono ?_
  rintro e w6 ⟨gj, rfl, hg6, hA6, hb6⟩
  have A6 := Lib.hid (A5.out.keep hb6)
  have C6 := Lib.hid (C5.out.keep hb6)
  have D6 := Lib.hid (D5.out.keep hb6)
  have R6 := Lib.hid (R5.out.keep hb6)
  have L6 := Lib.hid (HR0.out.keep (B5.out.trans (hb6.mono B5.out.size)))
  have B6 := Lib.hid (B5.out.trans (hb6.mono B5.out.size))
  have P6 := Lib.hid (P5.out.keep hb6)
  have J6 := Lib.hid hA6
  clear hg6 hA6 hb6
  have a1c : w6.cell? ⟨ga, at_, none⟩ = some (.int .i64 x) := by
    have hz := HZL.out
    rw [A6.out.int at_ (by rw [len_ins (by omega)]; omega), nti_ins_at (by omega)]
  have d1c : w6.cell? ⟨gc, at_, none⟩ = some (.int .i64 x) := by
    have hz := HZL.out
    rw [D6.out.int at_ (by rw [len_set (by omega)]; omega), nti_set_at (by omega)]
  go_wp2_with fail
  go_loop [18, 156] (fun s i => ∃ j k : Nat, i = .int .i64 j ∧ j ≤ n ∧ s = .int .i64 k ∧ k ≤ Lp ∧ Hid (k = min j hi - lo)) (fun _ i => n - (intOf i).toNat)
  case atStart => exact ⟨0, 0, rfl, Nat.zero_le _, rfl, Nat.zero_le _, Lib.hid (by omega)⟩
  case round =>
    obtain ⟨i, k, rfl, hin, rfl, hkL, hk⟩ := hrel
    by_cases hlt : i < n
    · obtain ⟨gl, ol, rfl, hlc⟩ := L6.out.int i hlt
      obtain ⟨go, oo, rfl, hoc⟩ := R6.out.int i hlt
      have lc := hlc i hlt
      have oc := hoc i hlt
      have jc : w6.cell? ⟨gj, i, none⟩ = some (.int .i64 (nti zs i)) := by
        have hz := HZL.out
        rw [J6.out.int i (by rw [List.length_append]; omega), nti_join_lo (by omega)]
      clear hlc hoc
      by_cases h1 : i < at_
      · have hne : ((i : Int) != (at_ : Int)) = true := by rw [bne_iff_ne]; omega
        have ac : w6.cell? ⟨ga, i, none⟩ = some (.int .i64 (nti zs i)) := by
          have hz := HZL.out
          rw [A6.out.int (i) (by rw [len_ins (by omega)]; omega), nti_ins_lo (by omega) (by omega)]
        have bc : w6.cell? ⟨gb, i, none⟩ = some (.int .i64 (nti zs i)) := by
          have hz := HZL.out
          have hcl := len_cut (zs := zs) (at_ := at_) (by omega)
          rw [C6.out.int i (by omega), nti_cut_lo (by omega) (by omega)]
        have cc : w6.cell? ⟨gc, i, none⟩ = some (.int .i64 (nti zs i)) := by
          have hz := HZL.out
          rw [D6.out.int i (by rw [len_set (by omega)]; omega), nti_set_ne (by omega) (by omega) (by omega)]
        have hkn : k = min (i + 1) hi - lo := by have h1 := hk.out; have h3 := HHI.out; have h4 := HLO.out; omega
        have HKN := Lib.hid hkn
        clear hkn
        generalize nti zs i = Z at *
        go_wp2
        go_round
        case rel => exact ⟨i + 1, k, by go_num, by omega, rfl, by omega, HKN⟩
        case measure => simp [intOf]; omega
      · by_cases h2 : i = at_
        · subst h2
          have ac : w6.cell? ⟨ga, i + 1, none⟩ = some (.int .i64 (nti zs i)) := by
            have hz := HZL.out
            rw [A6.out.int (i + 1) (by rw [len_ins (by omega)]; omega), nti_ins_hi (by omega) (by omega)]
          by_cases h3 : (i : Int) < t
          · obtain ⟨hkl, hkn⟩ : k < Lp ∧ k + 1 = min (i + 1) hi - lo := by have h1 := hk.out; have h2 := HPL.out; have h3 := HHI.out; have h4 := HLO.out; omega
            obtain ⟨gp, op, rfl, hpc⟩ := P6.out.int k (by have := HLP.out; omega)
            have pc1 : w6.cell? ⟨gp, op + k, none⟩ = some (.int .i64 (nti zs i)) := by
              rw [hpc k (by have := HLP.out; omega), HPN.out lo hi k (by have h1 := hk.out; have h2 := HPL.out; omega)]
              congr 3
              have h1 := hk.out; have h2 := HPL.out; have h3 := HHI.out; have h4 := HLO.out; omega
            have jc2 : w6.cell? ⟨gj, n + k, none⟩ = some (.int .i64 (nti zs i)) := by
              have hz := HZL.out
              have hl := HLP.out
              rw [J6.out.int (n + k) (by rw [List.length_append]; omega), ← hz, nti_join_hi, HPN.out lo hi k (by have h1 := hk.out; have h2 := HPL.out; omega)]
              congr 3
              have h1 := hk.out; have h2 := HPL.out; have h3 := HHI.out; have h4 := HLO.out; omega
            have HKN := Lib.hid hkn
            clear hpc hkn
            generalize nti zs i = Z at *
            go_wp2
            go_round
            case rel => exact ⟨i + 1, k + 1, by go_num, by omega, by go_num, by omega, HKN⟩
            case measure => simp [intOf]; omega
          · have hkn : k = min (i + 1) hi - lo := by have h1 := hk.out; have h3 := HHI.out; have h4 := HLO.out; omega
            have HKN := Lib.hid hkn
            clear hkn
            generalize nti zs i = Z at *
            go_wp2
            go_round
            case rel => exact ⟨i + 1, k, by go_num, by omega, rfl, by omega, HKN⟩
            case measure => simp [intOf]; omega
        · have h4 : at_ < i := by omega
          have hne : ((i : Int) != (at_ : Int)) = true := by rw [bne_iff_ne]; omega
          have ac : w6.cell? ⟨ga, i + 1, none⟩ = some (.int .i64 (nti zs i)) := by
            have hz := HZL.out
            rw [A6.out.int (i + 1) (by rw [len_ins (by omega)]; omega), nti_ins_hi (by omega) (by omega)]
          have bc : w6.cell? ⟨gb, i - 1, none⟩ = some (.int .i64 (nti zs i)) := by
            have hz := HZL.out
            have hcl := len_cut (zs := zs) (at_ := at_) (by omega)
            rw [C6.out.int (i - 1) (by omega), nti_cut_hi (by omega) (by omega)]
          have cc : w6.cell? ⟨gc, i, none⟩ = some (.int .i64 (nti zs i)) := by
            have hz := HZL.out
            rw [D6.out.int i (by rw [len_set (by omega)]; omega), nti_set_ne (by omega) (by omega) (by omega)]
          by_cases h3 : (i : Int) < t
          · obtain ⟨hkl, hkn⟩ : k < Lp ∧ k + 1 = min (i + 1) hi - lo := by have h1 := hk.out; have h2 := HPL.out; have h3 := HHI.out; have h4 := HLO.out; omega
            obtain ⟨gp, op, rfl, hpc⟩ := P6.out.int k (by have := HLP.out; omega)
            have pc1 : w6.cell? ⟨gp, op + k, none⟩ = some (.int .i64 (nti zs i)) := by
              rw [hpc k (by have := HLP.out; omega), HPN.out lo hi k (by have h1 := hk.out; have h2 := HPL.out; omega)]
              congr 3
              have h1 := hk.out; have h2 := HPL.out; have h3 := HHI.out; have h4 := HLO.out; omega
            have jc2 : w6.cell? ⟨gj, n + k, none⟩ = some (.int .i64 (nti zs i)) := by
              have hz := HZL.out
              have hl := HLP.out
              rw [J6.out.int (n + k) (by rw [List.length_append]; omega), ← hz, nti_join_hi, HPN.out lo hi k (by have h1 := hk.out; have h2 := HPL.out; omega)]
              congr 3
              have h1 := hk.out; have h2 := HPL.out; have h3 := HHI.out; have h4 := HLO.out; omega
            have HKN := Lib.hid hkn
            clear hpc hkn
            generalize nti zs i = Z at *
            go_wp2
            go_round
            case rel => exact ⟨i + 1, k + 1, by go_num, by omega, by go_num, by omega, HKN⟩
            case measure => simp [intOf]; omega
          · have hkn : k = min (i + 1) hi - lo := by have h1 := hk.out; have h3 := HHI.out; have h4 := HLO.out; omega
            have HKN := Lib.hid hkn
            clear hkn
            generalize nti zs i = Z at *
            go_wp2
            go_round
            case rel => exact ⟨i + 1, k, by go_num, by omega, rfl, by omega, HKN⟩
            case measure => simp [intOf]; omega
    · obtain rfl : i = n := by omega
      have hkk : k = Lp := by have h1 := hk.out; have h2 := HPL.out; have h3 := HHI.out; omega
      have hq : ((k : Int) == (Lp : Int)) = true := by rw [hkk]; simp
      clear hkk
      go_wp2_with fail
      refine (HV _).out.mono ?_
      rintro e w7 ⟨rfl, hb7⟩
      go_wp2
      go_ret
      exact ⟨rfl, B6.out.trans (hb7.mono B6.out.size)⟩
end Go.Proofs.Ytajheohdhiojcab
