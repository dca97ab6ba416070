/- The document's eye: Text. Condition: what has a fault has no bytes. -/
import Derived.Test.YtmkglaghnjnooaaDoorOpREye
import Derived.Test.YtmkglaghnjnooaaDoorOpParse
namespace Go.Proofs.YtmkglaghnjnooaaDoor
open Go.RowKit

theorem rconv {w : World} {rb n c : Nat} {ao : Option Addr} {r : List UInt8} (h4 : r ≠ [] → ∃ g o, ao = some ⟨g, o, none⟩ ∧ g ≠ rb ∧ ∀ j (h : j < r.length), w.cell? ⟨g, o + j, none⟩ = some (.int .u8 (r[j].toNat : Nat))) (hn : n ≤ r.length) :
    (convert 33 9 (.slice ao n c)).run Tryd.prog w = .ok (.string ⟨(r.take n).toArray⟩) w := by
  refine conv_cells w ao n c (r.take n) (by rw [List.length_take]; omega) ?_
  by_cases h0 : n = 0
  · exact Or.inl h0
  · right
    have hne : r ≠ [] := by intro e; rw [e] at hn; simp at hn; exact h0 hn
    obtain ⟨g, o, e, _, hc⟩ := h4 hne
    refine ⟨_, e, fun j hj => ?_⟩
    have hl : (r.take n).length = n := by rw [List.length_take]; omega
    have := hc j (by omega)
    rw [List.getElem_take, add_at]
    exact this

set_option maxHeartbeats 8000000 in
set_option maxRecDepth 100000 in
theorem rtext_any (rb m : Nat) (s : ES) (w : World) (he : REye w rb s) (hm : m ≤ 9223372036854775807) :
    Calls Tryd.prog 42 #[.pointer (some ⟨rb, 0, none⟩), .int .i64 (m : Nat)] w fun e w' => e = .returned (.string (eT m s).1) ∧ ReadR w w' rb (eT m s).2 := by
  obtain ⟨R, hR⟩ : ∃ R, R = eT m s := ⟨_, rfl⟩
  rw [← hR]
  have hE := hR.trans (eT_eN m s)
  have HRD := Lib.hid (rread_any rb m s w he)
  have hnm := eN_le m s
  have HE0 := Lib.hid he
  obtain ⟨bs, f⟩ := s
  obtain ⟨⟨v0, h1, _⟩, h5⟩ := he
  simp only at h1 h5
  have k1 := two_cell1 h1
  clear h1
  by_cases hf : f = 0
  case neg =>
    have hbs := h5 hf
    have hfb : (f != 0) = true := by rw [bne_iff_ne]; exact hf
    have HQ : Hid (ReadR w w rb ([], f)) := Lib.hid ⟨by have := HE0.out; rw [hbs] at this; exact this, Ew.refl _ _⟩
    have HRR : Hid (R = (⟨#[]⟩, ([], f))) := Lib.hid (by rw [hR]; unfold eT; rw [if_neg hf])
    clear hf hE hbs h5 hR hnm HRD
    go_enter Tryd.func42, Tryd.ntmps42
    go_wp2
    go_ret
    rw [HRR.out]
    exact ⟨rfl, HQ.out⟩
  subst hf
  clear hR h5
  generalize eN m (bs, 0) = Q at *
  obtain ⟨n, r, f1⟩ := Q
  simp only at hE hnm HRD
  have HR := Lib.hid hE
  have hmi : (0 : Int) ≤ m := by omega
  clear hE
  go_enter Tryd.func42, Tryd.ntmps42
  go_wp2_with fail
  refine HRD.out.mono ?_
  rintro e w1 ⟨rfl, hr1⟩
  have HQ1 := Lib.hid hr1
  obtain ⟨⟨⟨v, h1, ao, c, rfl, hc1, hc2, h4⟩, h5⟩, hew⟩ := hr1
  simp only at h1 hc1 h4 h5
  have j1 := two_cell1 h1
  by_cases hf1 : f1 = 0
  case neg =>
    have hfb : (f1 != 0) = true := by rw [bne_iff_ne]; exact hf1
    have HRR : Hid (R = (⟨#[]⟩, (r, f1))) := Lib.hid (by rw [HR.out, if_neg hf1, h5 hf1])
    clear hf1 h1 h4 h5 hew k1
    go_wp2
    go_ret
    rw [HRR.out]
    exact ⟨rfl, HQ1.out⟩
  subst hf1
  have j0 := two_cell0 h1
  have f0 := two_free (i := 0) h1
  obtain ⟨L, hL⟩ : ∃ L, L = r.length := ⟨_, rfl⟩
  have HL := Lib.hid hL
  by_cases hlong : r.length < n
  · have hlg : (L : Int) < n := by omega
    have HRR : Hid (R = (⟨#[]⟩, ([], 11))) := Lib.hid (by rw [HR.out, if_pos rfl, if_pos hlong])
    have HSP := Lib.hid (spoil_any rb (r, 0) 11 w1 HQ1.out.1)
    rw [← hL] at j0 hc1
    clear h1 h4 h5 k1 hlong hL
    go_wp2_with fail
    refine HSP.out.mono ?_
    rintro e w5 ⟨rfl, hr5⟩
    go_wp2
    go_ret
    rw [HRR.out]
    exact ⟨rfl, hr5.1, HQ1.out.2.trans hr5.2⟩
  · have hle : n ≤ r.length := by omega
    have hlg : ¬ (L : Int) < n := by omega
    have hlg2 : (n : Int) ≤ L := by omega
    have hnc : n ≤ c := by omega
    have hcv := rconv (c := c) h4 hle
    have HTK := Lib.hid (rtake h1 hc1 hc2 h4 hle)
    have HRR : Hid (R = (⟨(r.take n).toArray⟩, (r.drop n, 0))) := Lib.hid (by rw [HR.out, if_pos rfl, if_neg hlong])
    have H4 := Lib.hid h4
    rw [← hL] at j0 hc1
    clear h1 h4 h5 k1 hlong hL hle
    by_cases hcn : c = n
    · subst hcn
      go_wp2
      go_ret
      rw [HRR.out]
      have h := HTK.out ao (fun h => absurd h (by have := HL.out; omega))
      have e1 : r.length - c = 0 := by have := HL.out; omega
      rw [e1, Nat.sub_self] at h
      exact ⟨rfl, h.1, HQ1.out.2.trans h.2⟩
    · go_wp2
      go_ret
      rw [HRR.out]
      have h := HTK.out (Option.map (fun x => x.add n) ao) (fun h => by
        obtain ⟨g, o, e, _⟩ := H4.out (by intro e; rw [e] at h; simp at h)
        exact ⟨g, o, e, by rw [e, Option.map_some, add_at]⟩)
      rw [← HL.out] at h
      exact ⟨rfl, h.1, HQ1.out.2.trans h.2⟩
end Go.Proofs.YtmkglaghnjnooaaDoor
