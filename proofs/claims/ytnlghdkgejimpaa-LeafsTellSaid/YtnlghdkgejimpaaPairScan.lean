/- bowerref06.Scan on rows of pairs of which each key is there once. Conditions: at most 2^38 pairs, texts of at most 2^47 bytes; the limit is an int. -/
import Derived.Test.YtnlghdkgejimpaaPairAll
namespace Go.Proofs.Ytnlghdkgejimpaa
open Go.RowKit

/-- In the range, both ends with it. -/
def inR (low high : ByteArray) (p : ByteArray × Int) : Bool := !lss p.1.data.toList low.data.toList && !lss high.data.toList p.1.data.toList
def scanP (ss : List (ByteArray × Int)) (low high : ByteArray) (limit : Int) : List (ByteArray × Int) := (ss.filter (inR low high)).take limit.toNat

theorem filt_step (ss : List (ByteArray × Int)) (low high : ByteArray) (i : Nat) (hi : i < ss.length) : (ss.take (i + 1)).filter (inR low high) = (ss.take i).filter (inR low high) ++ (if inR low high (ntp ss i) then [((ntp ss i).1, (ntp ss i).2)] else []) := by
  rw [List.take_succ_eq_append_getElem hi, List.filter_append, ntp_eq hi]
  cases h : inR low high ss[i] <;> simp [h]

theorem filt_len (ss : List (ByteArray × Int)) (low high : ByteArray) (i : Nat) : ((ss.take i).filter (inR low high)).length ≤ ss.length := by
  refine Nat.le_trans (List.length_filter_le _ _) ?_
  rw [List.length_take]; omega

theorem scan_full (ss : List (ByteArray × Int)) (low high : ByteArray) (limit : Int) (i : Nat) (h : ((ss.take i).filter (inR low high)).length = limit.toNat) : scanP ss low high limit = (ss.take i).filter (inR low high) := by
  unfold scanP
  conv => lhs; rw [← List.take_append_drop i ss, List.filter_append]
  rw [← h, List.take_left]

theorem scan_end (ss : List (ByteArray × Int)) (low high : ByteArray) (limit : Int) (h : ((ss.take ss.length).filter (inR low high)).length ≤ limit.toNat) : scanP ss low high limit = (ss.take ss.length).filter (inR low high) := by
  rw [List.take_length] at h ⊢
  unfold scanP
  exact List.take_of_length_le h

theorem OwnP.base {w : World} {B C : Nat} {v : Value} {ps : List (ByteArray × Int)} (h : OwnP w C v ps) (hBC : B ≤ C) : OwnP w B v ps := by
  refine ⟨h.1, ?_⟩
  rcases h.2 with hn | ⟨g, cap, cur, e, hb, rest⟩
  · exact Or.inl hn
  · exact Or.inr ⟨g, cap, cur, e, by omega, rest⟩

theorem own_one {w : World} {B : Nat} {v : Value} {ps : List (ByteArray × Int)} (h : OwnP w B v ps) (o : Obj) : (w.alloc o).ownsRow B 37 2 v ps.length (pcells ps) := h.keep (one_alloc w o).2

set_option maxHeartbeats 4000000 in
set_option maxRecDepth 100000 in
theorem rscan_any (v : Value) (low high : ByteArray) (limit : Int) (ps ss : List (ByteArray × Int)) (w : World) (hr : RdP w v ps) (hs : SameS ps ss) (hu : RiseP ss) (hl : ps.length = ss.length) (hn : ps.length ≤ 274877906944) (hz : ∀ p ∈ ps, p.1.size ≤ 140737488355328)
    (hlo : low.size ≤ 140737488355328) (hhi : high.size ≤ 140737488355328) (hm0 : -9223372036854775808 ≤ limit) (hm1 : limit ≤ 9223372036854775807) :
    Calls Try.prog 25 #[v, .string low, .string high, .int .i64 limit] w fun e w' => DelGives w w' e (scanP ss low high limit) := by
  have HAL := Lib.hid (rall_any v ps ss w hr hs hu hl hn hz)
  have HST := Lib.hid (filt_step ss low high)
  have HFL := Lib.hid (filt_len ss low high)
  have HSF := Lib.hid (scan_full ss low high limit)
  have HSE := Lib.hid (scan_end ss low high limit)
  have HSZ := Lib.hid (fun j (hj : j < ss.length) => (show (ntp ss j).1.size ≤ 140737488355328 by rw [ntp_eq hj]; exact hz _ ((hs _).2 (List.getElem_mem hj))))
  obtain ⟨i0, hi, hz0, hz1, hz2⟩ := info_parts infoPair
  have HI := Lib.hid (show _ ∧ _ ∧ _ ∧ _ from ⟨hi, hz0, hz1, hz2⟩)
  obtain ⟨ao, c, rfl⟩ := hr.open
  rw [hl] at HAL hn
  rw [hl]
  clear hr hs hu hz hi hz0 hz1 hz2 hl
  obtain ⟨n, hL⟩ : ∃ n, n = ss.length := ⟨_, rfl⟩
  rw [← hL] at HAL HST HFL HSE HSZ hn ⊢
  have HLN := Lib.hid hL
  clear hL
  go_enter Try.func25, Try.ntmps25
  go_wp2_with fail
  refine HAL.out.mono ?_
  rintro e w1 ⟨v1, rfl, hO1, hb1⟩
  obtain ⟨lo1, lc, hv1⟩ := hO1.open
  rw [← HLN.out] at hv1
  subst hv1
  have R1 := Lib.hid hO1.rd
  have B1 := Lib.hid hb1
  clear hO1 hb1
  go_wp2
  go_loopw [9, 11] (fun out s wr => ∃ (i : Nat) (qs : List (ByteArray × Int)), s = .int .i64 i ∧ i ≤ n ∧ Hid (qs = (ss.take i).filter (inR low high)) ∧ Hid (qs.length ≤ limit.toNat) ∧ Hid (OwnP wr w1.heap.size out qs) ∧ Hid (Below w1.heap.size w1 wr)) (fun _ s _ => n - (intOf s).toNat)
  case atStart => exact ⟨0, [], rfl, Nat.zero_le _, Lib.hid (by simp), Lib.hid (Nat.zero_le _), Lib.hid (OwnP.nil _ _), Lib.hid (Below.refl _ _)⟩
  case round =>
    obtain ⟨i, qs, rfl, hi, hqs, hql, hO, hb⟩ := hrel
    obtain ⟨oo, oc, rfl⟩ := hO.out.open
    have hqn : qs.length ≤ n := by rw [hqs.out]; exact HFL.out i
    by_cases hlt : i < n
    · by_cases hlim : (qs.length : Int) < limit
      · obtain ⟨g, o, rfl, hcs⟩ := (R1.out.keep hb.out).at_ i hlt
        have hc1 := (hcs i hlt).1
        have hc2 := (hcs i hlt).2
        have hstep := HST.out i hlt
        rw [← hqs.out] at hstep
        have hps := HSZ.out i hlt
        clear hcs
        generalize hp : ntp ss i = p at *
        clear hp
        obtain ⟨s, z⟩ := p
        simp only at hc1 hc2 hps
        have H1 := fun W => Lib.hid (less_any s low W hps hlo)
        have H2 := fun W => Lib.hid (less_any high s W hhi hps)
        have hB : ∀ (w2 w3 : World), Drew wr w2 → Drew w2 w3 → OwnP w3 w1.heap.size (.slice oo qs.length oc) qs ∧ Below w1.heap.size w1 w3 := fun _ _ h1 h2 => ⟨hO.out.keep ((h1.trans h2).elim fun q e => by rw [e]; exact below_drewN (Below.refl _ _) _), hb.out.trans (drew_below (h1.trans h2) _)⟩
        have HBB := Lib.hid hB
        clear hB
        cases h1 : lss s.data.toList low.data.toList with
        | true =>
          have hf : inR low high (s, z) = false := by unfold inR; simp [h1]
          rw [hf, if_neg (by simp), List.append_nil] at hstep
          rw [h1] at H1
          have HX := Lib.hid hstep
          clear hstep hf h1
          go_wp2_with fail
          refine (H1 _).out.mono ?_
          rintro e w2 ⟨rfl, hd⟩
          have HK := Lib.hid (HBB.out _ _ hd (Drew.refl _))
          clear hd
          go_wp2
          go_roundw
          case rel => exact ⟨i + 1, qs, by go_num, by omega, Lib.hid HX.out.symm, hql, Lib.hid HK.out.1, Lib.hid HK.out.2⟩
          case measure => simp [intOf]; omega
        | false =>
          cases h2 : lss high.data.toList s.data.toList with
          | true =>
            have hf : inR low high (s, z) = false := by unfold inR; simp [h2]
            rw [hf, if_neg (by simp), List.append_nil] at hstep
            rw [h1] at H1
            rw [h2] at H2
            have HX := Lib.hid hstep
            clear hstep hf h1 h2
            go_wp2_with fail
            refine (H1 _).out.mono ?_
            rintro e w2 ⟨rfl, hd⟩
            have hcw : w2.cell? ⟨g, o + i * 2, none⟩ = some (.string s) := by obtain ⟨q, rfl⟩ := hd; exact hc1
            go_wp2_with fail
            refine (H2 _).out.mono ?_
            rintro e w3 ⟨rfl, hd2⟩
            have HK := Lib.hid (HBB.out _ _ hd hd2)
            clear hd hd2
            go_wp2
            go_roundw
            case rel => exact ⟨i + 1, qs, by go_num, by omega, Lib.hid HX.out.symm, hql, Lib.hid HK.out.1, Lib.hid HK.out.2⟩
            case measure => simp [intOf]; omega
          | false =>
            have hf : inR low high (s, z) = true := by unfold inR; simp [h1, h2]
            rw [hf, if_pos rfl] at hstep
            rw [h1] at H1
            rw [h2] at H2
            have HX := Lib.hid hstep
            have HQ2 : Hid ((qs ++ [(s, z)]).length ≤ limit.toNat) := Lib.hid (by rw [List.length_append, List.length_singleton]; omega)
            clear hstep hf h1 h2
            go_wp2_with fail
            refine (H1 _).out.mono ?_
            rintro e w2 ⟨rfl, hd⟩
            have hcw : w2.cell? ⟨g, o + i * 2, none⟩ = some (.string s) := by obtain ⟨q, rfl⟩ := hd; exact hc1
            go_wp2_with fail
            refine (H2 _).out.mono ?_
            rintro e w3 ⟨rfl, hd2⟩
            have HK := Lib.hid (HBB.out _ _ hd hd2)
            have hcc1 : w3.cell? ⟨g, o + i * 2, none⟩ = some (.string s) := by obtain ⟨q, rfl⟩ := hd.trans hd2; exact hc1
            have hcc2 : w3.cell? ⟨g, o + i * 2 + 1, none⟩ = some (.int .u64 z) := by obtain ⟨q, rfl⟩ := hd.trans hd2; exact hc2
            clear hd hd2 hc1 hc2
            go_wp2_with ((with_reducible show wpList _ _ _ (⟨some 50, _, _, _, _, _⟩ :: _) _ _); refine wpList_append_own _ rfl (.tmp 44) (.tmp 49) 41 rfl w1.heap.size 37 i0 (.agg #[.string ⟨#[]⟩, .int .u64 0]) 2 24 Try.underlying41 HI.out.1 HI.out.2.1 HI.out.2.2.1 HI.out.2.2.2 rfl (by decide) _ qs.length (pcells qs) rfl (own_one HK.out.1 _) ⟨w3.heap.size, 0, none⟩ 1 1 [.string s, .int .u64 z] rfl rfl (two_news w3 s z _) (by intro u hu; simp at hu; rcases hu with rfl | rfl <;> rfl) (by unfold maxLen; omega) (by omega) (Nat.le_trans HK.out.2.size (by simp)) ?_; intro v9 w9 hown9 hgrow9 _; have O9 := Lib.hid (OwnP.more hown9); have B9 := Lib.hid ((HK.out.2.alloc HK.out.2.size _).grown hgrow9 (Nat.le_trans HK.out.2.size (by simp)) (fun k hk => (HK.out.1.lt k hk).1)); clear hown9 hgrow9)
            go_roundw
            case rel => exact ⟨i + 1, qs ++ [(s, z)], by go_num, by omega, Lib.hid HX.out.symm, HQ2, O9, B9⟩
            case measure => simp [intOf]; omega
      · have hd : decide ((qs.length : Int) < limit) = false := by rw [decide_eq_false_iff_not]; exact hlim
        have hres := HSF.out i (by rw [← hqs.out]; have := hql.out; omega)
        rw [← hqs.out] at hres
        have HX := Lib.hid hres
        clear hres
        go_wp2
        go_ret
        exact ⟨_, rfl, by rw [HX.out]; exact OwnP.base hO.out B1.out.size, B1.out.trans (hb.out.mono B1.out.size)⟩
    · obtain rfl : i = n := by omega
      have hres := HSE.out (by rw [← hqs.out]; exact hql.out)
      rw [← hqs.out] at hres
      have HX := Lib.hid hres
      clear hres
      go_wp2
      go_ret
      exact ⟨_, rfl, by rw [HX.out]; exact OwnP.base hO.out B1.out.size, B1.out.trans (hb.out.mono B1.out.size)⟩
end Go.Proofs.Ytnlghdkgejimpaa
