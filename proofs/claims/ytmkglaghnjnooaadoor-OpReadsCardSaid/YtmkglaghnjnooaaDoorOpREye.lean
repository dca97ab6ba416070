/- The document's eye: spoil, Read, Text, by the same plain functions. Condition: what has a fault has no bytes. -/
import Derived.Test.YtmkglaghnjnooaaDoorOpHv
namespace Go.Proofs.YtmkglaghnjnooaaDoor
open Go.RowKit

/-- The document's eye: what is left, and the fault. -/
def REye (w : World) (rb : Nat) (s : ES) : Prop := (∃ v, w.heap[rb]? = some (.cells #[v, .int .i64 s.2] 48 (0, 0)) ∧ Bs w rb v s.1) ∧ (s.2 ≠ 0 → s.1 = [])
def ReadR (w w' : World) (rb : Nat) (s : ES) : Prop := REye w' rb s ∧ Ew rb w w'
theorem REye.lt {w : World} {rb : Nat} {s : ES} (h : REye w rb s) : rb < w.heap.size := by obtain ⟨⟨_, h, _⟩, _⟩ := h; exact lt_of_block h

set_option maxHeartbeats 800000 in
theorem spoil_any (rb : Nat) (s : ES) (f : Int) (w : World) (he : REye w rb s) :
    Calls Tryd.prog 49 #[.pointer (some ⟨rb, 0, none⟩), .int .i64 f] w fun e w' => e = .returned (.int .u64 0) ∧ ReadR w w' rb ([], f) := by
  obtain ⟨⟨v, h1, ao, c, rfl, _⟩, _⟩ := he
  have hfin : ReadR w ((w.setCell ⟨rb, 1, none⟩ (.int .i64 f)).setCell ⟨rb, 0, none⟩ (.slice none 0 0)) rb ([], f) :=
    ⟨⟨⟨_, two_set0 (two_set1 h1), Bs.nil _ _⟩, fun _ => rfl⟩, (Ew.set _ _ _ _).trans (Ew.set _ _ _ _)⟩
  have HF := Lib.hid hfin
  have k0 := two_cell0 h1
  have k1 := two_cell1 h1
  have f0 := two_free (i := 0) h1
  have f1 := two_free (i := 1) h1
  clear h1 hfin
  go_enter Tryd.func49, Tryd.ntmps49
  go_wp2
  go_ret
  exact ⟨rfl, HF.out⟩

/-- What is left of a row. -/
theorem rtake {w : World} {rb n c : Nat} {ao : Option Addr} {r : List UInt8} (h1 : w.heap[rb]? = some (.cells #[.slice ao r.length c, .int .i64 0] 48 (0, 0)))
    (hc1 : r.length ≤ c) (hc2 : c ≤ 9223372036854775807) (h4 : r ≠ [] → ∃ g o, ao = some ⟨g, o, none⟩ ∧ g ≠ rb ∧ ∀ j (h : j < r.length), w.cell? ⟨g, o + j, none⟩ = some (.int .u8 (r[j].toNat : Nat))) (hn : n ≤ r.length) :
    ∀ ao', (n < r.length → ∃ g o, ao = some ⟨g, o, none⟩ ∧ ao' = some ⟨g, o + n, none⟩) → ReadR w (w.setCell ⟨rb, 0, none⟩ (.slice ao' (r.length - n) (c - n))) rb (r.drop n, 0) := by
  intro ao' ha
  have hb : Bs w rb (.slice ao' (r.length - n) (c - n)) (r.drop n) := by
    refine ⟨ao', c - n, by rw [List.length_drop], by rw [List.length_drop]; omega, by omega, fun hne => ?_⟩
    have hlt : n < r.length := by
      have := List.length_pos_iff.2 hne
      rw [List.length_drop] at this
      omega
    obtain ⟨g, o, e1, e2⟩ := ha hlt
    obtain ⟨g', o', e3, hg, hc⟩ := h4 (by intro e; rw [e] at hlt; simp at hlt)
    rw [e1] at e3
    injection e3 with e3
    injection e3 with e3 e4 _
    subst e3 e4
    refine ⟨g, o + n, e2, hg, fun j hj => ?_⟩
    rw [List.length_drop] at hj
    have := hc (n + j) (by omega)
    rw [Nat.add_assoc, this, List.getElem_drop]
  exact ⟨⟨⟨_, two_set0 h1, hb.keep (Ew.set _ _ _ _)⟩, fun h => absurd rfl h⟩, Ew.set _ _ _ _⟩

set_option maxHeartbeats 8000000 in
set_option maxRecDepth 100000 in
theorem rread_any (rb m : Nat) (s : ES) (w : World) (he : REye w rb s) :
    Calls Tryd.prog 41 #[.pointer (some ⟨rb, 0, none⟩), .int .u64 m] w fun e w' => e = .returned (.int .u64 ((eN m s).1 : Nat)) ∧ ReadR w w' rb (eN m s).2 := by
  obtain ⟨bs, f⟩ := s
  have HE := Lib.hid he
  obtain ⟨⟨v, h1, ao, c, rfl, hc1, hc2, h4⟩, h5⟩ := he
  simp only at h1 hc1 h4 h5
  have k0 := two_cell0 h1
  have k1 := two_cell1 h1
  have f0 := two_free (i := 0) h1
  have H1 := Lib.hid h1
  have H4 := Lib.hid h4
  clear h1 h4
  by_cases hf : f = 0
  case neg =>
    have hE : eN m (bs, f) = (0, ([], f)) := by unfold eN; rw [if_neg hf]
    have hbs := h5 hf
    have hfb : (f != 0) = true := by rw [bne_iff_ne]; exact hf
    have HQ : Hid (ReadR w w rb ([], f)) := Lib.hid ⟨by have := HE.out; rw [hbs] at this; exact this, Ew.refl _ _⟩
    rw [hE]
    clear hf hE hbs h5
    go_enter Tryd.func41, Tryd.ntmps41
    go_wp2
    go_ret
    exact ⟨rfl, HQ.out⟩
  subst hf
  have hE : eN m (bs, 0) = ((rnum m bs).1, ((rnum m bs).2.2, (rnum m bs).2.1)) := by unfold eN; rw [if_pos rfl]
  rw [hE]
  clear hE h5
  obtain ⟨R, hR⟩ : ∃ R, R = rnum m bs := ⟨_, rfl⟩
  rw [← hR]
  have HR := Lib.hid hR
  clear hR
  obtain ⟨n, hn⟩ : ∃ n, n = bs.length := ⟨_, rfl⟩
  have HN := Lib.hid hn
  rw [← hn] at k0 hc1
  have HSP := Lib.hid (fun f => spoil_any rb (bs, 0) f w HE.out)
  clear hn
  go_enter Tryd.func41, Tryd.ntmps41
  go_wp2
  go_loopw [5] (fun vk wr => ∃ j : Nat, vk = .int .i64 j ∧ j ≤ n ∧ j ≤ 9 ∧ Hid (∀ t (h : t < bs.length), t < j → 128 ≤ bs[t].toNat) ∧ Hid (w = wr)) (fun vk _ => n - (intOf vk).toNat)
  case atStart => exact ⟨0, rfl, Nat.zero_le _, Nat.zero_le _, Lib.hid (fun t h ht => absurd ht (Nat.not_lt_zero _)), Lib.hid rfl⟩
  case round =>
    obtain ⟨j, rfl, hj, hj9, hall, hwr⟩ := hrel
    have hwe := hwr.out
    subst hwe
    clear hwr
    by_cases hlt : j < n
    case neg =>
      have hlt' : ¬ (j : Int) < n := by omega
      have hge : (n : Int) ≤ j := by omega
      have HRR : Hid (R = (0, 11, [])) := Lib.hid (by
        rw [HR.out]
        have hjn : bs.length = j := by have := HN.out; omega
        exact rnum_short m bs (by omega) (fun t ht => hall.out t ht (by omega)))
      clear hlt
      go_wp2_with fail
      refine (HSP.out 11).mono ?_
      rintro e w5 ⟨rfl, hr5⟩
      go_wp2
      go_ret
      rw [HRR.out]
      exact ⟨rfl, hr5⟩
    have hltb : j < bs.length := by rw [← HN.out]; exact hlt
    obtain ⟨g, o, rfl, hg, hcb⟩ := H4.out (by intro e; rw [e] at hltb; simp at hltb)
    have hcj := hcb j hltb
    have HCB := Lib.hid hcb
    have hlt' : (j : Int) < n := by omega
    have hjc : j < c := by omega
    have hb256 := bs[j].toNat_lt
    have HBJ : Hid (bs[j].toNat = bs[j].toNat) := Lib.hid rfl
    obtain ⟨x, hx⟩ : ∃ x, x = bs[j].toNat := ⟨_, rfl⟩
    rw [← hx] at hcj hb256
    have HX := Lib.hid hx
    clear hlt hcb hx HBJ
    by_cases hgo : j < 9 ∧ 128 ≤ x
    · have g1 : (j : Int) < 9 := by omega
      have g2 : (127 : Int) < x := by omega
      have HALL : Hid (∀ t (h : t < bs.length), t < j + 1 → 128 ≤ bs[t].toNat) := Lib.hid (fun t h ht => by
        by_cases e : t = j
        · subst e; rw [← HX.out]; exact hgo.2
        · exact hall.out t h (by omega))
      have hj10 : j + 1 ≤ 9 := by omega
      clear hgo
      go_wp2
      go_roundw
      case rel => exact ⟨j + 1, by go_num, by omega, hj10, HALL, (by first | exact Lib.hid rfl | exact Lib.hid trivial)⟩
      case measure => simp [intOf]; omega
    have HRUN := Lib.hid (rnum_run m j bs hj9 hall.out hltb (by rw [← HX.out]; omega))
    rw [← HX.out] at HRUN
    have HFIT : Hid (j = 9 → x ≤ 1 → hv (bs.take (j + 1)) < 18446744073709551616) := Lib.hid (fun h9 hx1 => hv_fits j bs hj9 hltb (fun _ => by rw [← HX.out]; exact hx1))
    have HFIT2 : Hid (j ≠ 9 → hv (bs.take (j + 1)) < 18446744073709551616) := Lib.hid (fun h9 => hv_fits j bs hj9 hltb (fun h => absurd h h9))
    have hge : ¬ (n : Int) ≤ j := by omega
    have hor : j = 9 ∨ (j ≠ 9 ∧ x < 128) := by omega
    clear hgo hall
    -- the last digit: six ways
    have hways : (0 < j ∧ x = 0 ∧ j = 9) ∨ (0 < j ∧ x = 0 ∧ j ≠ 9) ∨ (0 < j ∧ x ≠ 0 ∧ j = 9 ∧ 1 < x) ∨ (0 < j ∧ x ≠ 0 ∧ j = 9 ∧ x ≤ 1) ∨ (0 < j ∧ x ≠ 0 ∧ j ≠ 9 ∧ x < 128) ∨ (j = 0 ∧ x < 128) := by omega
    rcases hways with ⟨q1, q2, q3⟩ | ⟨q1, q2, q3⟩ | ⟨q1, q2, q3, q4⟩ | ⟨q1, q2, q3, q4⟩ | ⟨q1, q2, q3, q4⟩ | ⟨q1, q4⟩
    · have HRR : Hid (R = (0, 10, [])) := Lib.hid (by rw [HR.out, HRUN.out, if_pos (Or.inl ⟨q1, q2⟩)])
      clear HRUN
      have g1 : ¬ (j : Int) < 9 := by omega
      have r1 : (0 : Int) < j := by omega
      have r2 : ((x : Int) == 0) = true := by rw [q2]; rfl
      clear q1 q2 q3
      go_wp2_with fail
      refine (HSP.out 10).mono ?_
      rintro e w5 ⟨rfl, hr5⟩
      go_wp2
      go_ret
      rw [HRR.out]
      exact ⟨rfl, hr5⟩
    · have HRR : Hid (R = (0, 10, [])) := Lib.hid (by rw [HR.out, HRUN.out, if_pos (Or.inl ⟨q1, q2⟩)])
      clear HRUN
      have g1 : (j : Int) < 9 := by omega
      have g2 : ¬ (127 : Int) < x := by omega
      have r1 : (0 : Int) < j := by omega
      have r2 : ((x : Int) == 0) = true := by rw [q2]; rfl
      clear q1 q2 q3
      go_wp2_with fail
      refine (HSP.out 10).mono ?_
      rintro e w5 ⟨rfl, hr5⟩
      go_wp2
      go_ret
      rw [HRR.out]
      exact ⟨rfl, hr5⟩
    · have HRR : Hid (R = (0, 10, [])) := Lib.hid (by rw [HR.out, HRUN.out, if_pos (Or.inr (Or.inl ⟨q3, q4⟩))])
      clear HRUN
      have g1 : ¬ (j : Int) < 9 := by omega
      have r1 : (0 : Int) < j := by omega
      have r2 : ((x : Int) == 0) = false := by rw [beq_eq_false_iff_ne]; omega
      have r3 : ((j : Int) == 9) = true := by rw [q3]; rfl
      have r4 : (1 : Int) < x := by omega
      clear q1 q2 q3 q4
      go_wp2_with fail
      refine (HSP.out 10).mono ?_
      rintro e w5 ⟨rfl, hr5⟩
      go_wp2
      go_ret
      rw [HRR.out]
      exact ⟨rfl, hr5⟩
    · have hnb : ¬ ((0 < j ∧ x = 0) ∨ (j = 9 ∧ 1 < x)) := by omega
      have hfit := HFIT.out q3 q4
      have hhv := hv_lt (bs.take (j + 1))
      obtain ⟨D, hD⟩ : ∃ D, D = bs.take (j + 1) := ⟨_, rfl⟩
      rw [← hD] at HRUN hfit
      have hDl : D.length = j + 1 := by rw [hD, List.length_take]; omega
      have HD : Hid (∀ i, (h : i < D.length) → ∃ y : Nat, y < 256 ∧ w.cell? ⟨g, o + i, none⟩ = some (.int .u8 y) ∧ hv (D.drop i) = y % 128 + 128 * hv (D.drop (i + 1))) := Lib.hid (fun i h => by
        have hib : i < bs.length := by omega
        refine ⟨bs[i].toNat, bs[i].toNat_lt, HCB.out i hib, ?_⟩
        rw [hv_step D i h]
        have e : D[i] = bs[i] := by simp only [hD, List.getElem_take]
        rw [e])
      have HDL := Lib.hid hDl
      have HDR := Lib.hid (hv_drop_le D)
      have HND : Hid (D.drop (j + 1) = []) := Lib.hid (List.drop_eq_nil_of_le (by omega))
      have HNB := Lib.hid hnb
      have HTK := Lib.hid (rtake (n := j + 1) (by have := H1.out; rw [HN.out] at *; exact this : w.heap[rb]? = some (.cells #[.slice (some ⟨g, o, none⟩) bs.length c, .int .i64 0] 48 (0, 0))) (by have := HN.out; omega) hc2 H4.out hltb)
      have HFT := Lib.hid hfit
      clear hnb hfit hhv hD hDl hor
      have g1 : ¬ (j : Int) < 9 := by omega
      have r1 : (0 : Int) < j := by omega
      have r2 : ((x : Int) == 0) = false := by rw [beq_eq_false_iff_ne]; omega
      have r3 : ((j : Int) == 9) = true := by rw [q3]; rfl
      have r4 : ¬ (1 : Int) < x := by omega
      clear q1 q2 q3 q4
      go_wp2
      go_loopw [7, 8] (fun vn vi wr => ∃ (a : Nat) (i : Nat), vn = .int .u64 a ∧ vi = .int .i64 ((i : Int) - 1) ∧ i ≤ j + 1 ∧ Hid (a = hv (D.drop i)) ∧ Hid (w = wr)) (fun _ vi _ => (intOf vi + 1).toNat)
      case atStart => exact ⟨0, j + 1, rfl, by go_num, Nat.le_refl _, Lib.hid (by rw [HND.out]; rfl), Lib.hid rfl⟩
      case round =>
        obtain ⟨a, i, rfl, rfl, hi, ha, hwr⟩ := hrel
        have hwe := hwr.out
        subst hwe
        clear hwr
        by_cases hi0 : i = 0
        · subst hi0
          have HA : Hid (a = hv D) := Lib.hid (by rw [ha.out]; rfl)
          have hneg : ¬ (0 : Int) ≤ ((0 : Nat) : Int) - 1 := by omega
          by_cases hbig : m < a
          · have hbig' : (m : Int) < a := by omega
            have HRR : Hid (R = (0, 10, [])) := Lib.hid (by rw [HR.out, HRUN.out, if_pos (by rw [← HA.out]; exact Or.inr (Or.inr hbig))])
            clear HRUN ha hbig
            go_wp2_with fail
            refine (HSP.out 10).mono ?_
            rintro e w5 ⟨rfl, hr5⟩
            go_wp2
            go_ret
            rw [HRR.out]
            exact ⟨rfl, hr5⟩
          · have hbig' : ¬ (m : Int) < a := by omega
            have HRR : Hid (R = (a, 0, bs.drop (j + 1))) := Lib.hid (by
              rw [HR.out, HRUN.out, if_neg (fun h => by
                rcases h with h | h | h
                · exact HNB.out (Or.inl h)
                · exact HNB.out (Or.inr h)
                · rw [← HA.out] at h; exact hbig h), ← HA.out])
            have hwc : IntKind.i64.wrap ((j : Int) + 1) = (j : Int) + 1 := by rw [IntKind.wrap_i64]; omega
            have hw1 : (0 : Int) ≤ (j : Int) + 1 := by omega
            have hw2 : (j : Int) + 1 ≤ n := by omega
            have hw3 : (n : Int) ≤ c := by omega
            clear HRUN ha hbig
            by_cases hcn : c = j + 1
            · subst hcn
              go_wp2
              go_ret
              rw [HRR.out]
              have h := HTK.out (some ⟨g, o, none⟩) (fun h => absurd h (by have := HN.out; omega))
              refine ⟨rfl, ?_⟩
              have e1 : bs.length - (j + 1) = 0 := by have := HN.out; omega
              rw [e1, Nat.sub_self] at h
              exact h
            · go_wp2
              go_ret
              rw [HRR.out]
              have h := HTK.out (some ⟨g, o + (j + 1), none⟩) (fun h => ⟨g, o, rfl, rfl⟩)
              refine ⟨rfl, ?_⟩
              rw [← HN.out] at h
              exact h
        · obtain ⟨i', rfl⟩ : ∃ i', i = i' + 1 := ⟨i - 1, by omega⟩
          obtain ⟨y, hy, hcy, hst⟩ := HD.out i' (by have := HDL.out; omega)
          have hle := HDR.out i'
          have hfit := HFT.out
          have hAeq : a = hv (D.drop (i' + 1)) := ha.out
          have hbound : y % 128 + 128 * a < 18446744073709551616 := by rw [hAeq, ← hst]; omega
          have HNX : Hid (a * 128 + y % 128 = hv (D.drop i')) := Lib.hid (by rw [hst, hAeq]; omega)
          have hm1 : ((i' : Int) + 1) - 1 = i' := by omega
          have hi1 : (0 : Int) ≤ i' := by omega
          have hi2 : (i' : Int) < n := by omega
          have hi3 : i' < c := by omega
          have hym : (y : Int) % 128 = ((y % 128 : Nat) : Int) := by omega
          have hyt : (y : Int).tmod 128 = ((y % 128 : Nat) : Int) := by rw [Int.tmod_eq_emod_of_nonneg (by omega)]; omega
          generalize hq : y % 128 = q at *
          have hq1 : q < 128 := by omega
          clear hst hAeq hfit hle hi0
          push_cast
          rw [hm1]
          go_wp2
          go_roundw
          case rel => exact ⟨a * 128 + q, i', by go_num, rfl, by omega, HNX, (by first | exact Lib.hid rfl | exact Lib.hid trivial)⟩
          case measure => first | (simp [intOf]; done) | (simp [intOf]; omega)
    · have hnb : ¬ ((0 < j ∧ x = 0) ∨ (j = 9 ∧ 1 < x)) := by omega
      have hfit := HFIT2.out q3
      have hhv := hv_lt (bs.take (j + 1))
      obtain ⟨D, hD⟩ : ∃ D, D = bs.take (j + 1) := ⟨_, rfl⟩
      rw [← hD] at HRUN hfit
      have hDl : D.length = j + 1 := by rw [hD, List.length_take]; omega
      have HD : Hid (∀ i, (h : i < D.length) → ∃ y : Nat, y < 256 ∧ w.cell? ⟨g, o + i, none⟩ = some (.int .u8 y) ∧ hv (D.drop i) = y % 128 + 128 * hv (D.drop (i + 1))) := Lib.hid (fun i h => by
        have hib : i < bs.length := by omega
        refine ⟨bs[i].toNat, bs[i].toNat_lt, HCB.out i hib, ?_⟩
        rw [hv_step D i h]
        have e : D[i] = bs[i] := by simp only [hD, List.getElem_take]
        rw [e])
      have HDL := Lib.hid hDl
      have HDR := Lib.hid (hv_drop_le D)
      have HND : Hid (D.drop (j + 1) = []) := Lib.hid (List.drop_eq_nil_of_le (by omega))
      have HNB := Lib.hid hnb
      have HTK := Lib.hid (rtake (n := j + 1) (by have := H1.out; rw [HN.out] at *; exact this : w.heap[rb]? = some (.cells #[.slice (some ⟨g, o, none⟩) bs.length c, .int .i64 0] 48 (0, 0))) (by have := HN.out; omega) hc2 H4.out hltb)
      have HFT := Lib.hid hfit
      clear hnb hfit hhv hD hDl hor
      have g1 : (j : Int) < 9 := by omega
      have g2 : ¬ (127 : Int) < x := by omega
      have r1 : (0 : Int) < j := by omega
      have r2 : ((x : Int) == 0) = false := by rw [beq_eq_false_iff_ne]; omega
      have r3 : ((j : Int) == 9) = false := by rw [beq_eq_false_iff_ne]; omega
      clear q1 q2 q3 q4
      go_wp2
      go_loopw [7, 8] (fun vn vi wr => ∃ (a : Nat) (i : Nat), vn = .int .u64 a ∧ vi = .int .i64 ((i : Int) - 1) ∧ i ≤ j + 1 ∧ Hid (a = hv (D.drop i)) ∧ Hid (w = wr)) (fun _ vi _ => (intOf vi + 1).toNat)
      case atStart => exact ⟨0, j + 1, rfl, by go_num, Nat.le_refl _, Lib.hid (by rw [HND.out]; rfl), Lib.hid rfl⟩
      case round =>
        obtain ⟨a, i, rfl, rfl, hi, ha, hwr⟩ := hrel
        have hwe := hwr.out
        subst hwe
        clear hwr
        by_cases hi0 : i = 0
        · subst hi0
          have HA : Hid (a = hv D) := Lib.hid (by rw [ha.out]; rfl)
          have hneg : ¬ (0 : Int) ≤ ((0 : Nat) : Int) - 1 := by omega
          by_cases hbig : m < a
          · have hbig' : (m : Int) < a := by omega
            have HRR : Hid (R = (0, 10, [])) := Lib.hid (by rw [HR.out, HRUN.out, if_pos (by rw [← HA.out]; exact Or.inr (Or.inr hbig))])
            clear HRUN ha hbig
            go_wp2_with fail
            refine (HSP.out 10).mono ?_
            rintro e w5 ⟨rfl, hr5⟩
            go_wp2
            go_ret
            rw [HRR.out]
            exact ⟨rfl, hr5⟩
          · have hbig' : ¬ (m : Int) < a := by omega
            have HRR : Hid (R = (a, 0, bs.drop (j + 1))) := Lib.hid (by
              rw [HR.out, HRUN.out, if_neg (fun h => by
                rcases h with h | h | h
                · exact HNB.out (Or.inl h)
                · exact HNB.out (Or.inr h)
                · rw [← HA.out] at h; exact hbig h), ← HA.out])
            have hwc : IntKind.i64.wrap ((j : Int) + 1) = (j : Int) + 1 := by rw [IntKind.wrap_i64]; omega
            have hw1 : (0 : Int) ≤ (j : Int) + 1 := by omega
            have hw2 : (j : Int) + 1 ≤ n := by omega
            have hw3 : (n : Int) ≤ c := by omega
            clear HRUN ha hbig
            by_cases hcn : c = j + 1
            · subst hcn
              go_wp2
              go_ret
              rw [HRR.out]
              have h := HTK.out (some ⟨g, o, none⟩) (fun h => absurd h (by have := HN.out; omega))
              refine ⟨rfl, ?_⟩
              have e1 : bs.length - (j + 1) = 0 := by have := HN.out; omega
              rw [e1, Nat.sub_self] at h
              exact h
            · go_wp2
              go_ret
              rw [HRR.out]
              have h := HTK.out (some ⟨g, o + (j + 1), none⟩) (fun h => ⟨g, o, rfl, rfl⟩)
              refine ⟨rfl, ?_⟩
              rw [← HN.out] at h
              exact h
        · obtain ⟨i', rfl⟩ : ∃ i', i = i' + 1 := ⟨i - 1, by omega⟩
          obtain ⟨y, hy, hcy, hst⟩ := HD.out i' (by have := HDL.out; omega)
          have hle := HDR.out i'
          have hfit := HFT.out
          have hAeq : a = hv (D.drop (i' + 1)) := ha.out
          have hbound : y % 128 + 128 * a < 18446744073709551616 := by rw [hAeq, ← hst]; omega
          have HNX : Hid (a * 128 + y % 128 = hv (D.drop i')) := Lib.hid (by rw [hst, hAeq]; omega)
          have hm1 : ((i' : Int) + 1) - 1 = i' := by omega
          have hi1 : (0 : Int) ≤ i' := by omega
          have hi2 : (i' : Int) < n := by omega
          have hi3 : i' < c := by omega
          have hym : (y : Int) % 128 = ((y % 128 : Nat) : Int) := by omega
          have hyt : (y : Int).tmod 128 = ((y % 128 : Nat) : Int) := by rw [Int.tmod_eq_emod_of_nonneg (by omega)]; omega
          generalize hq : y % 128 = q at *
          have hq1 : q < 128 := by omega
          clear hst hAeq hfit hle hi0
          push_cast
          rw [hm1]
          go_wp2
          go_roundw
          case rel => exact ⟨a * 128 + q, i', by go_num, rfl, by omega, HNX, (by first | exact Lib.hid rfl | exact Lib.hid trivial)⟩
          case measure => first | (simp [intOf]; done) | (simp [intOf]; omega)
    · have hnb : ¬ ((0 < j ∧ x = 0) ∨ (j = 9 ∧ 1 < x)) := by omega
      have hfit := HFIT2.out (by omega)
      have hhv := hv_lt (bs.take (j + 1))
      obtain ⟨D, hD⟩ : ∃ D, D = bs.take (j + 1) := ⟨_, rfl⟩
      rw [← hD] at HRUN hfit
      have hDl : D.length = j + 1 := by rw [hD, List.length_take]; omega
      have HD : Hid (∀ i, (h : i < D.length) → ∃ y : Nat, y < 256 ∧ w.cell? ⟨g, o + i, none⟩ = some (.int .u8 y) ∧ hv (D.drop i) = y % 128 + 128 * hv (D.drop (i + 1))) := Lib.hid (fun i h => by
        have hib : i < bs.length := by omega
        refine ⟨bs[i].toNat, bs[i].toNat_lt, HCB.out i hib, ?_⟩
        rw [hv_step D i h]
        have e : D[i] = bs[i] := by simp only [hD, List.getElem_take]
        rw [e])
      have HDL := Lib.hid hDl
      have HDR := Lib.hid (hv_drop_le D)
      have HND : Hid (D.drop (j + 1) = []) := Lib.hid (List.drop_eq_nil_of_le (by omega))
      have HNB := Lib.hid hnb
      have HTK := Lib.hid (rtake (n := j + 1) (by have := H1.out; rw [HN.out] at *; exact this : w.heap[rb]? = some (.cells #[.slice (some ⟨g, o, none⟩) bs.length c, .int .i64 0] 48 (0, 0))) (by have := HN.out; omega) hc2 H4.out hltb)
      have HFT := Lib.hid hfit
      clear hnb hfit hhv hD hDl hor
      have g1 : (j : Int) < 9 := by omega
      have g2 : ¬ (127 : Int) < x := by omega
      have r1 : ¬ (0 : Int) < j := by omega
      have r3 : ((j : Int) == 9) = false := by rw [beq_eq_false_iff_ne]; omega
      clear q1 q4
      go_wp2
      go_loopw [7, 8] (fun vn vi wr => ∃ (a : Nat) (i : Nat), vn = .int .u64 a ∧ vi = .int .i64 ((i : Int) - 1) ∧ i ≤ j + 1 ∧ Hid (a = hv (D.drop i)) ∧ Hid (w = wr)) (fun _ vi _ => (intOf vi + 1).toNat)
      case atStart => exact ⟨0, j + 1, rfl, by go_num, Nat.le_refl _, Lib.hid (by rw [HND.out]; rfl), Lib.hid rfl⟩
      case round =>
        obtain ⟨a, i, rfl, rfl, hi, ha, hwr⟩ := hrel
        have hwe := hwr.out
        subst hwe
        clear hwr
        by_cases hi0 : i = 0
        · subst hi0
          have HA : Hid (a = hv D) := Lib.hid (by rw [ha.out]; rfl)
          have hneg : ¬ (0 : Int) ≤ ((0 : Nat) : Int) - 1 := by omega
          by_cases hbig : m < a
          · have hbig' : (m : Int) < a := by omega
            have HRR : Hid (R = (0, 10, [])) := Lib.hid (by rw [HR.out, HRUN.out, if_pos (by rw [← HA.out]; exact Or.inr (Or.inr hbig))])
            clear HRUN ha hbig
            go_wp2_with fail
            refine (HSP.out 10).mono ?_
            rintro e w5 ⟨rfl, hr5⟩
            go_wp2
            go_ret
            rw [HRR.out]
            exact ⟨rfl, hr5⟩
          · have hbig' : ¬ (m : Int) < a := by omega
            have HRR : Hid (R = (a, 0, bs.drop (j + 1))) := Lib.hid (by
              rw [HR.out, HRUN.out, if_neg (fun h => by
                rcases h with h | h | h
                · exact HNB.out (Or.inl h)
                · exact HNB.out (Or.inr h)
                · rw [← HA.out] at h; exact hbig h), ← HA.out])
            have hwc : IntKind.i64.wrap ((j : Int) + 1) = (j : Int) + 1 := by rw [IntKind.wrap_i64]; omega
            have hw1 : (0 : Int) ≤ (j : Int) + 1 := by omega
            have hw2 : (j : Int) + 1 ≤ n := by omega
            have hw3 : (n : Int) ≤ c := by omega
            clear HRUN ha hbig
            by_cases hcn : c = j + 1
            · subst hcn
              go_wp2
              go_ret
              rw [HRR.out]
              have h := HTK.out (some ⟨g, o, none⟩) (fun h => absurd h (by have := HN.out; omega))
              refine ⟨rfl, ?_⟩
              have e1 : bs.length - (j + 1) = 0 := by have := HN.out; omega
              rw [e1, Nat.sub_self] at h
              exact h
            · go_wp2
              go_ret
              rw [HRR.out]
              have h := HTK.out (some ⟨g, o + (j + 1), none⟩) (fun h => ⟨g, o, rfl, rfl⟩)
              refine ⟨rfl, ?_⟩
              rw [← HN.out] at h
              exact h
        · obtain ⟨i', rfl⟩ : ∃ i', i = i' + 1 := ⟨i - 1, by omega⟩
          obtain ⟨y, hy, hcy, hst⟩ := HD.out i' (by have := HDL.out; omega)
          have hle := HDR.out i'
          have hfit := HFT.out
          have hAeq : a = hv (D.drop (i' + 1)) := ha.out
          have hbound : y % 128 + 128 * a < 18446744073709551616 := by rw [hAeq, ← hst]; omega
          have HNX : Hid (a * 128 + y % 128 = hv (D.drop i')) := Lib.hid (by rw [hst, hAeq]; omega)
          have hm1 : ((i' : Int) + 1) - 1 = i' := by omega
          have hi1 : (0 : Int) ≤ i' := by omega
          have hi2 : (i' : Int) < n := by omega
          have hi3 : i' < c := by omega
          have hym : (y : Int) % 128 = ((y % 128 : Nat) : Int) := by omega
          have hyt : (y : Int).tmod 128 = ((y % 128 : Nat) : Int) := by rw [Int.tmod_eq_emod_of_nonneg (by omega)]; omega
          generalize hq : y % 128 = q at *
          have hq1 : q < 128 := by omega
          clear hst hAeq hfit hle hi0
          push_cast
          rw [hm1]
          go_wp2
          go_roundw
          case rel => exact ⟨a * 128 + q, i', by go_num, rfl, by omega, HNX, (by first | exact Lib.hid rfl | exact Lib.hid trivial)⟩
          case measure => first | (simp [intOf]; done) | (simp [intOf]; omega)
end Go.Proofs.YtmkglaghnjnooaaDoor
