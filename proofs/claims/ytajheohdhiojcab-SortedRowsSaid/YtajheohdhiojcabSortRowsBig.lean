/- The law SortedRows, walked: it returns true, for any row of numbers and any three numbers; nothing that was there has turned. Condition: the numbers are ints. -/
import Derived.Test.YtajheohdhiojcabSortRowsMid
namespace Go.Proofs.Ytajheohdhiojcab
open Go.RowKit

set_option maxHeartbeats 4000000 in
set_option maxRecDepth 100000 in
theorem sortedRows_big (ao : Option Addr) (n c : Nat) (zs : List Int) (at_ : Int) (x t : Int) (w : World) (hr : Rd w (.slice ao n c) (vals zs)) (hA : ao = none → c = 0) (hn : n ≤ 100) (hat : (n : Int) < at_) (ht0 : -9223372036854775808 ≤ t) (ht1 : t ≤ 9223372036854775807) (ha0 : -9223372036854775808 ≤ at_) (ha1 : at_ ≤ 9223372036854775807) :
    Calls Try.prog 3 #[.slice ao n c, .int .i64 at_, .int .i64 x, .int .i64 t] w fun e w' => e = .returned (.bool true) ∧ Below w.heap.size w w' := by
  have HR := Lib.hid (hr.keep (one_alloc w (.cells #[] 3)).2)
  have hi0 := hr.ints
  have hzl := hi0.1
  have hnc := hi0.2.1
  have hcb := hi0.2.2
  obtain ⟨i0, hi, hz0, hz1, hz2⟩ := info_parts infoInt
  have HI := Lib.hid (show _ ∧ _ ∧ _ ∧ _ from ⟨hi, hz0, hz1, hz2⟩)
  have HA := Lib.hid hA
  have HR0 := Lib.hid hr
  have HV := fun W => Lib.hid (lives04 W)
  clear hi0 hi hz0 hz1 hz2 hA hr
  have HAD := fun v W (h : Rd W v (vals zs)) => addI_no v at_ x zs W h (by omega) (by omega)
  have HCU := fun v W (h : Rd W v (vals zs)) => cutI_no v at_ zs W h (by omega) (by omega)
  have HSE := fun v W (h : Rd W v (vals zs)) => setI_no v at_ x zs W h (by omega) (by omega)
  have HPA := fun v W (h : Rd W v (vals zs)) => partI_any v at_ t zs W h (by omega)
  have HJO := fun v1 v2 W (h1 : Rd W v1 (vals zs)) (h2 : Rd W v2 (vals (partI zs (max (at_ : Int) 0).toNat (min t zs.length).toNat))) => joinI_any v1 v2 zs (partI zs (max (at_ : Int) 0).toNat (min t zs.length).toNat) W h1 h2 (by rw [len_part]; omega)
  have hpl := len_part zs (max (at_ : Int) 0).toNat (min t zs.length).toNat
  have hpl2 : (partI zs (max (at_ : Int) 0).toNat (min t zs.length).toNat).length = (min t zs.length).toNat - (max (at_ : Int) 0).toNat := by rw [hpl]; omega
  have HPN := Lib.hid (fun lo hi k (h : lo + k < hi) => nti_part (zs := zs) (lo := lo) (hi := hi) (k := k) h)
  obtain ⟨lo, hlo⟩ : ∃ lo, lo = (max (at_ : Int) 0).toNat := ⟨_, rfl⟩
  obtain ⟨hi, hhi⟩ : ∃ hi, hi = (min t (zs.length : Int)).toNat := ⟨_, rfl⟩
  rw [← hlo, ← hhi] at HPA HJO hpl2
  obtain ⟨Lp, hLp⟩ : ∃ Lp, Lp = (partI zs lo hi).length := ⟨_, rfl⟩
  rw [← hLp] at HJO hpl2
  rw [hzl] at hhi  HJO
  have HZL := Lib.hid hzl
  have GAD := Lib.hid HAD
  have GCU := Lib.hid HCU
  have GSE := Lib.hid HSE
  have GPA := Lib.hid HPA
  have GJO := Lib.hid HJO
  have HLP := Lib.hid hLp
  have HLO := Lib.hid hlo
  have HHI := Lib.hid hhi
  have HPL := Lib.hid hpl2
  have hlpb : Lp ≤ 100 := by omega
  clear hpl hpl2 hLp hlo hhi HAD HCU HSE HPA HJO hzl
  go_enter Try.func3, Try.ntmps3
  go_wp2_with ((with_reducible show wpList _ _ _ (⟨some 27, _, _, _, _, _⟩ :: _) _ _); refine wpList_append_row _ rfl (.tmp 25) (.tmp 26) 22 rfl w.heap.size 3 i0 (.int .i64 0) 8 Try.underlying22 HI.out.1 HI.out.2.1 HI.out.2.2.1 HI.out.2.2.2 rfl (.slice (some ⟨w.heap.size, 0, none⟩) 0 0) 0 [] rfl (empty_owns w) ao n c (vals zs) rfl HA.out HR.out (vals_one _) (by unfold maxLen; omega) (by omega) (by simp) ?_; intro v1 w1 hown1 hgrow1)
  have hown := hown1
  rw [Nat.zero_add, List.nil_append] at hown
  have hr1 := rd_of_owns hown
  have R1 := Lib.hid hr1
  have B1 := Lib.hid ((one_alloc w (.cells #[] 3)).2.grown hgrow1 (by simp) (fun k hk => by simp [Value.ownBlock] at hk; omega))
  obtain ⟨a1, c1, hv1⟩ := hr1.open
  rw [vals_len, HZL.out] at hv1
  subst hv1
  clear hown hown1 hgrow1 hr1
  go_wp2_with fail
  refine (GAD.out _ _ R1.out).mono ?_
  rintro e w2 ⟨rfl, rfl⟩
  have R2 := R1
  have B2 := B1
  go_wp2_with fail
  refine (GCU.out _ _ R2.out).mono ?_
  rintro e w3 ⟨rfl, rfl⟩
  go_wp2_with fail
  refine (GSE.out _ _ R2.out).mono ?_
  rintro e w4 ⟨rfl, rfl⟩
  have R4 := R2
  have B4 := B2
  go_wp2_with fail
  refine (GPA.out _ _ R4.out).mono ?_
  rintro e w5 ⟨v5, rfl, hp5⟩
  have hb5 := hp5.below
  have hr5 := hp5.rd (by rw [← HLP.out]; omega)
  have R5 := Lib.hid (R4.out.keep hb5)
  have B5 := Lib.hid (B4.out.trans (hb5.mono B4.out.size))
  have P5 := Lib.hid hr5
  obtain ⟨pa, pc, hv5⟩ := hr5.open
  rw [vals_len, ← HLP.out] at hv5
  subst hv5
  clear hb5 hr5 hp5
  go_wp2_with fail
  refine (GJO.out _ _ _ R5.out P5.out).mono ?_
  rintro e w6 ⟨gj, rfl, hg6, hA6, hb6⟩
  have R6 := Lib.hid (R5.out.keep hb6)
  have L6 := Lib.hid (HR0.out.keep (B5.out.trans (hb6.mono B5.out.size)))
  have B6 := Lib.hid (B5.out.trans (hb6.mono B5.out.size))
  have P6 := Lib.hid (P5.out.keep hb6)
  have J6 := Lib.hid hA6
  clear hg6 hA6 hb6
  go_wp2_with fail
  go_loop [18, 156] (fun s i => ∃ j k : Nat, i = .int .i64 j ∧ j ≤ n ∧ s = .int .i64 k ∧ k ≤ Lp ∧ Hid (k = min j hi - lo)) (fun _ i => n - (intOf i).toNat)
  case atStart => exact ⟨0, 0, rfl, Nat.zero_le _, rfl, Nat.zero_le _, Lib.hid (by omega)⟩
  case round =>
    obtain ⟨i, k, rfl, hin, rfl, hkL, hk⟩ := hrel
    by_cases hlt : i < n
    · obtain ⟨gl, ol, rfl, hlc⟩ := L6.out.int i hlt
      obtain ⟨go, oo, rfl, hoc⟩ := R6.out.int i hlt
      have lc := hlc i hlt
      have oc := hoc i hlt
      have jc : w6.cell? ⟨gj, i, none⟩ = some (.int .i64 (nti zs i)) := by
        have hz := HZL.out
        rw [J6.out.int i (by rw [List.length_append]; omega), nti_join_lo (by omega)]
      clear hlc hoc
      have hkn : k = min (i + 1) hi - lo := by have h1 := hk.out; have h3 := HHI.out; have h4 := HLO.out; omega
      have HKN := Lib.hid hkn
      clear hkn
      generalize nti zs i = Z at *
      go_wp2
      go_round
      case rel => exact ⟨i + 1, k, by go_num, by omega, rfl, by omega, HKN⟩
      case measure => simp [intOf]; omega
    · obtain rfl : i = n := by omega
      have hkk : k = Lp := by have h1 := hk.out; have h2 := HPL.out; have h3 := HHI.out; omega
      have hq : ((k : Int) == (Lp : Int)) = true := by rw [hkk]; simp
      clear hkk
      go_wp2_with fail
      refine (HV _).out.mono ?_
      rintro e w7 ⟨rfl, hb7⟩
      go_wp2
      go_ret
      exact ⟨rfl, B6.out.trans (hb7.mono B6.out.size)⟩
end Go.Proofs.Ytajheohdhiojcab
