/- bowerref05.Show of a list, of any item. Conditions: the item's numbers are numbers; at most 2^30 items and bytes. -/
import Derived.Test.YtbghemndcndhpaaDoorBoxRShow
namespace Go.Proofs.YtbghemndcndhpaaDoor
open Go.RowKit

set_option maxHeartbeats 8000000 in
set_option maxRecDepth 100000 in
theorem rshow_list (n : Int) (s : ByteArray) (l : List Itm) (ih : ∀ x ∈ l, RShowOk x) : RShowOk (.mk 4 n s l) := by
  intro S v w hs hok hw
  rw [Sits] at hs
  obtain ⟨ao, c, rfl, hc, hsl⟩ := hs
  rw [okI, okIs_iff] at hok
  rw [wI] at hw
  have hpl := preS_len l hok.2.2
  have hil := showB_len hok.2.2
  have HP := Lib.hid (preS_step l)
  have HIL := Lib.hid hil
  have HPL := Lib.hid hpl
  obtain ⟨N, hN⟩ : ∃ N, N = l.length := ⟨_, rfl⟩
  have hNw : N ≤ 1073741824 := by
    have := wIs_len l
    omega
  rw [← hN] at hc ⊢
  obtain ⟨WL, hWL⟩ : ∃ WL, WL = wIs l := ⟨_, rfl⟩
  have hWL2 : WL ≤ 1073741824 := by omega
  have HWM := Lib.hid (show ∀ x ∈ l, wI x ≤ WL from fun x hx => by have := wIs_mem hx; omega)
  rw [← hWL] at HPL
  have HRX : Hid (showB (bxI (.mk 4 n s l)) = preS l N ++ [93]) := Lib.hid (by
    rw [bxI, if_neg (by omega), if_neg (by omega), if_neg (by omega), if_pos rfl, showB]
    unfold preS
    rw [hN, ← bxIs_len, List.take_length]
    simp)
  have HP0 : Hid (preS l 0 = [91]) := Lib.hid (by unfold preS; simp [showL])
  have HB0 := Lib.hid (one_alloc w (.cells #[.int .i64 4, .int .u64 n, .string s, .slice ao N c] 25)).2
  have HF0 := Lib.hid (Four.alloc w 4 n s (.slice ao N c))
  have HN := Lib.hid hN
  have HSL := Lib.hid hsl
  have HOK := Lib.hid hok.2.2
  have HIH := Lib.hid ih
  obtain ⟨W1, hW1⟩ : ∃ W1, W1 = w.alloc (.cells #[.int .i64 4, .int .u64 n, .string s, .slice ao N c] 25) := ⟨_, rfl⟩
  rw [← hW1] at HB0 HF0
  have HW1 := Lib.hid hW1
  clear hN hsl hok ih hw hpl hil hWL hW1
  go_enter Tryd.func16, Tryd.ntmps16
  go_wp2
  go_loopw [3, 4] (fun ss si wr => ∃ i : Nat, si = .int .i64 i ∧ i ≤ N ∧ ss = .string (txt (preS l i)) ∧ Hid (Below W1.heap.size W1 wr)) (fun _ si _ => N - (intOf si).toNat)
  case atStart => exact ⟨0, rfl, Nat.zero_le _, by rw [HP0.out]; rfl, by rw [← HW1.out]; exact Lib.hid (Below.refl _ _)⟩
  case round =>
    obtain ⟨i, rfl, hi, rfl, hR⟩ := hrel
    have hf := HF0.out.keep hR.out
    have e0 := hf.c0
    have e3 := hf.c3
    have hbw : Below w.heap.size w wr := HB0.out.trans (hR.out.mono HB0.out.size)
    have hp := HPL.out i
    clear hf
    by_cases hlt : i < N
    · have hil : i < l.length := by rw [← HN.out]; exact hlt
      obtain ⟨b, o, k', n', s', ao', len', c', rfl, c0, c1, c2, c3, hx⟩ := item_at HSL.out hbw i hil
      have hq := HIL.out l[i] (List.getElem_mem hil)
      have hqw := HWM.out l[i] (List.getElem_mem hil)
      have HC := Lib.hid (HIH.out l[i] (List.getElem_mem hil) S _ _ hx (HOK.out _ (List.getElem_mem hil)) (by omega))
      have HST := Lib.hid (HP.out i hil)
      obtain ⟨D, hD⟩ : ∃ D, D = showB (bxI l[i]) := ⟨_, rfl⟩
      rw [← hD] at hq HC HST
      obtain ⟨P1, hP1⟩ : ∃ P1, P1 = preS l (i + 1) := ⟨_, rfl⟩
      rw [← hP1] at HST
      have HP1 := Lib.hid hP1
      obtain ⟨P, hP⟩ : ∃ P, P = preS l i := ⟨_, rfl⟩
      rw [← hP] at HST hp ⊢
      have z1 : (txt P).size ≤ 40000000000 := by rw [txt_size]; omega
      have z2 : (txt D).size ≤ 40000000000 := by rw [txt_size]; omega
      have HTD : Hid (if i = 0 then txt P1 = txt P ++ txt D else txt P1 = txt P ++ ⟨#[32]⟩ ++ txt D) := Lib.hid (by
        rw [HST.out]
        by_cases h0 : i = 0
        · rw [if_pos h0, if_pos h0, txt_append]; simp
        · rw [if_neg h0, if_neg h0, show (⟨#[32]⟩ : ByteArray) = txt [32] from rfl, txt_append, txt_append])
      generalize hTP : txt P = TP at *
      generalize hTD : txt D = TD at *
      clear hx hD hP1 hP hbw hp hq hqw hTP hTD HST
      by_cases h0 : i = 0
      · have HT := HTD.out
        rw [if_pos h0] at HT
        have HT := Lib.hid HT
        have hgt : ¬ (0 : Int) < i := by omega
        clear h0
        go_wp2_with fail
        refine HC.out.mono ?_
        rintro e w2 ⟨rfl, hb2⟩
        have H := Lib.hid (hR.out.trans (hb2.mono hR.out.size))
        clear hb2
        go_wp2
        go_roundw
        case rel => exact ⟨i + 1, by go_num, by omega, by rw [← HP1.out, HT.out], H⟩
        case measure => simp [intOf]; omega
      · have HT := HTD.out
        rw [if_neg h0] at HT
        have HT := Lib.hid HT
        have hgt : (0 : Int) < i := by omega
        have z3 : (TP ++ ⟨#[32]⟩).size ≤ 40000000001 := by rw [ByteArray.size_append, show (⟨#[32]⟩ : ByteArray).size = 1 from rfl]; omega
        clear h0
        go_wp2_with fail
        refine HC.out.mono ?_
        rintro e w2 ⟨rfl, hb2⟩
        have H := Lib.hid (hR.out.trans (hb2.mono hR.out.size))
        clear hb2
        go_wp2
        go_roundw
        case rel => exact ⟨i + 1, by go_num, by omega, by rw [← HP1.out, HT.out], H⟩
        case measure => simp [intOf]; omega
    · obtain rfl : i = N := by omega
      have HBW := Lib.hid hbw
      have z1 : (txt (preS l i)).size ≤ 40000000000 := by rw [txt_size]; omega
      have HT : Hid (txt (showB (bxI (.mk 4 n s l))) = txt (preS l i) ++ ⟨#[93]⟩) := Lib.hid (by
        rw [HRX.out, show (⟨#[93]⟩ : ByteArray) = txt [93] from rfl, txt_append])
      generalize txt (preS l i) = TP at *
      clear hbw hp
      go_wp2
      go_ret
      exact ⟨by rw [HT.out]; rfl, HBW.out⟩

theorem rshow_any (x : Itm) : RShowOk x := by
  induction x using Itm.ind with
  | h k n s l ih =>
    by_cases h4 : k = 4
    · subst h4
      exact rshow_list n s l ih
    · exact rshow_plain k n s l h4
end Go.Proofs.YtbghemndcndhpaaDoor
