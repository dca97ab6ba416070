/- bowerref06.Put and Same on rows of pairs. Condition: at most 2^38 pairs. -/
import Derived.Test.YtgckgagnodkhjaaRRRRDoorPairSel
import Derived.Outline
namespace Go.Proofs.YtgckgagnodkhjaaRRRRDoor
open Go.RowKit

theorem ntp_ext {ps qs : List (ByteArray × Int)} (hl : ps.length = qs.length) (h : ∀ j, j < ps.length → ntp ps j = ntp qs j) : ps = qs := by
  apply List.ext_getElem hl
  intro i h1 h2
  have := h i h1
  rwa [ntp_eq h1, ntp_eq h2] at this

set_option maxHeartbeats 2000000 in
theorem rsame_any (v u : Value) (ps qs : List (ByteArray × Int)) (w : World) (hr : RdP w v ps) (hq : RdP w u qs) (b : Bool) (hb : b = true ↔ ps = qs) :
    Calls Tryd.prog 23 #[v, u] w fun e w' => e = .returned (.bool b) ∧ Drew w w' := by
  obtain ⟨ao, c, rfl⟩ := hr.open
  obtain ⟨bo, d, rfl⟩ := hq.open
  have hi0 := hr.len
  have hi1 := hq.len
  have hnc := hi0.2.1
  have hcb := hi0.2.2
  have hmd := hi1.2.1
  have hdb := hi1.2.2
  have HR := Lib.hid hr
  have HQ := Lib.hid hq
  have HB := Lib.hid hb
  have HX := Lib.hid (fun hl h => ntp_ext (ps := ps) (qs := qs) hl h)
  clear hr hq hb hi0 hi1
  have hlen : ps = qs → ps.length = qs.length := fun e => by rw [e]
  have HLEN := Lib.hid hlen
  clear hlen
  obtain ⟨n, hL⟩ : ∃ n, n = ps.length := ⟨_, rfl⟩
  obtain ⟨m, hM⟩ : ∃ m, m = qs.length := ⟨_, rfl⟩
  rw [← hL] at HR hnc HX HLEN ⊢
  rw [← hM] at HQ hmd HX HLEN ⊢
  clear hL hM
  by_cases hnm : n = m
  · subst hnm
    go_enter Tryd.func23, Tryd.ntmps23
    go_wp2
    go_loopw [5] (fun s wr => ∃ i : Nat, s = .int .i64 i ∧ i ≤ n ∧ Hid (∀ j, j < i → ntp ps j = ntp qs j) ∧ Drew w wr) (fun s _ => n - (intOf s).toNat)
    case atStart => exact ⟨0, rfl, Nat.zero_le _, Lib.hid (fun i hi => absurd hi (Nat.not_lt_zero _)), Drew.refl w⟩
    case round =>
      obtain ⟨i, rfl, hi, hall, hd⟩ := hrel
      by_cases hlt : i < n
      · obtain ⟨g, o, rfl, hcs⟩ := (HR.out.keep (drew_below hd _)).at_ i hlt
        obtain ⟨g2, o2, rfl, hds⟩ := (HQ.out.keep (drew_below hd _)).at_ i hlt
        have c1 := (hcs i hlt).1
        have c2 := (hcs i hlt).2
        have d1 := (hds i hlt).1
        have d2 := (hds i hlt).2
        have g1 : (i : Int) < n := by omega
        clear hcs hds
        by_cases he : ntp ps i = ntp qs i
        · have hnext : ∀ j, j < i + 1 → ntp ps j = ntp qs j := fun j hj => by
            by_cases e : j = i
            · subst e; exact he
            · exact hall.out j (by omega)
          have HN := Lib.hid hnext
          rw [he] at c1 c2
          clear hnext he
          generalize ntp qs i = q at *
          obtain ⟨s, z⟩ := q
          go_wp2
          go_quiet (fail)
          go_wp2
          go_roundw
          case rel => exact ⟨i + 1, by go_num, by omega, HN, hd.trans ⟨_, rfl⟩⟩
          case measure => simp [intOf]; omega
        · have hbf : b = false := by
            cases hbb : b with
            | false => rfl
            | true => exact absurd (by rw [HB.out.1 hbb]) he
          have HBF := Lib.hid hbf
          have hne : ¬ ((ntp ps i).1 = (ntp qs i).1 ∧ (ntp ps i).2 = (ntp qs i).2) := fun h => he (Prod.ext h.1 h.2)
          clear he hbf
          generalize ntp ps i = p at *
          generalize ntp qs i = q at *
          obtain ⟨s, z⟩ := p
          obtain ⟨s2, z2⟩ := q
          simp only at hne c1 c2 d1 d2
          by_cases hs : s = s2
          · have h1 := txt_eq hs
            have h2 : (z == z2) = false := by rw [beq_eq_false_iff_ne]; exact fun h => hne ⟨hs, h⟩
            clear hs hne
            go_wp2
            go_quiet (fail)
            go_wp2
            go_ret
            exact ⟨by rw [HBF.out]; rfl, hd.trans ⟨_, rfl⟩⟩
          · have h1 := txt_ne hs
            clear hs hne
            go_wp2
            go_quiet (fail)
            go_wp2
            go_ret
            exact ⟨by rw [HBF.out]; rfl, hd.trans ⟨_, rfl⟩⟩
      · have hbt : b = true := HB.out.2 (HX.out trivial (fun j hj => hall.out j (by omega)))
        have HBT := Lib.hid hbt
        clear hbt
        go_wp2
        go_ret
        exact ⟨by rw [HBT.out]; rfl, hd⟩
  · have hq : ((n : Int) != (m : Int)) = true := by rw [bne_iff_ne]; omega
    have hbf : b = false := by
      cases hbb : b with
      | false => rfl
      | true => exact absurd (HLEN.out (HB.out.1 hbb)) hnm
    have HBF := Lib.hid hbf
    clear hbf
    go_enter Tryd.func23, Tryd.ntmps23
    go_wp2
    go_ret
    exact ⟨by rw [HBF.out]; rfl, Drew.refl _⟩
end Go.Proofs.YtgckgagnodkhjaaRRRRDoor
