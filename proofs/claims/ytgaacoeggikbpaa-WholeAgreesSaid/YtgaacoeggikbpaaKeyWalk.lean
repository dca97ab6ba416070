/- key.Shared and key.Compare on any texts that are not longer than 2^47: how far two are alike, and which is less; nothing is written. -/
import Derived.Test.YtgaacoeggikbpaaRows
import Derived.Test.YtgaacoeggikbpaaKeyMath
import Derived.WalkKit
import Derived.OneCell
import Derived.Lib.Hide
import Derived.Outline
import Derived.Deep.QuietTactic
import Derived.BigQuiet
import Derived.StringKeys
namespace Go.Proofs.Ytgaacoeggikbpaa
open Go.RowKit

/-- Nothing but how many answers were drawn has turned. -/
def Drew (w w' : World) : Prop := ∃ q, w' = w.drewN q

theorem Drew.refl (w : World) : Drew w w := ⟨0, rfl⟩
theorem Drew.trans {a b c : World} (h : Drew a b) (k : Drew b c) : Drew a c := by
  obtain ⟨p, rfl⟩ := h
  obtain ⟨q, rfl⟩ := k
  exact ⟨p + q, World.drewN_drewN _ _ _⟩

theorem ret_i {a b : Int} (h : a = b) : Ending.returned (.int .i64 a) = .returned (.int .i64 b) := by rw [h]
theorem ret_b {a b : Bool} (h : a = b) : Ending.returned (.bool a) = .returned (.bool b) := by rw [h]

/-- -1, 0, 1. -/
def cmpI (x y : Int) : Int := if x < y then -1 else if y < x then 1 else 0

set_option maxHeartbeats 1000000 in
theorem cmpByte_any (x y : Int) (w : World) : Calls Try.prog 60 #[.int .u8 x, .int .u8 y] w fun e w' => e = .returned (.int .i64 (cmpI x y)) ∧ w' = w := by
  by_cases h1 : x < y
  · have hc : cmpI x y = -1 := by simp [cmpI, h1]
    rw [hc]
    clear hc
    go_enter Try.func60, Try.ntmps60
    go_wp2
    go_ret
    exact ⟨rfl, rfl⟩
  · by_cases h2 : y < x
    · have hc : cmpI x y = 1 := by simp [cmpI, h1, h2]
      rw [hc]
      clear hc
      go_enter Try.func60, Try.ntmps60
      go_wp2
      go_ret
      exact ⟨rfl, rfl⟩
    · have hc : cmpI x y = 0 := by simp [cmpI, h1, h2]
      rw [hc]
      clear hc
      go_enter Try.func60, Try.ntmps60
      go_wp2
      go_ret
      exact ⟨rfl, rfl⟩

set_option maxHeartbeats 1000000 in
theorem cmpInt_any (x y : Int) (w : World) : Calls Try.prog 61 #[.int .i64 x, .int .i64 y] w fun e w' => e = .returned (.int .i64 (cmpI x y)) ∧ w' = w := by
  by_cases h1 : x < y
  · have hc : cmpI x y = -1 := by simp [cmpI, h1]
    rw [hc]
    clear hc
    go_enter Try.func61, Try.ntmps61
    go_wp2
    go_ret
    exact ⟨rfl, rfl⟩
  · by_cases h2 : y < x
    · have hc : cmpI x y = 1 := by simp [cmpI, h1, h2]
      rw [hc]
      clear hc
      go_enter Try.func61, Try.ntmps61
      go_wp2
      go_ret
      exact ⟨rfl, rfl⟩
    · have hc : cmpI x y = 0 := by simp [cmpI, h1, h2]
      rw [hc]
      clear hc
      go_enter Try.func61, Try.ntmps61
      go_wp2
      go_ret
      exact ⟨rfl, rfl⟩

set_option maxHeartbeats 1000000 in
theorem shared_any (a b : ByteArray) (w : World) (ha : a.size ≤ 140737488355328) (hb : b.size ≤ 140737488355328) :
    Calls Try.prog 59 #[.string a, .string b] w fun e w' => e = .returned (.int .i64 (cpl a.data.toList b.data.toList)) ∧ Drew w w' := by
  obtain ⟨m, hm⟩ : ∃ m : Nat, m = min a.size b.size := ⟨_, rfl⟩
  have hmn : min (a.size : Int) (b.size : Int) = m := by omega
  have hma : m ≤ a.size := by omega
  have hmb : m ≤ b.size := by omega
  have hcl := cpl_le a.data.toList b.data.toList
  rw [show a.data.toList.length = a.size by simp, show b.data.toList.length = b.size by simp] at hcl
  have hcm : cpl a.data.toList b.data.toList ≤ m := by omega
  have HS : Hid (∀ k, (h1 : k < a.size) → (h2 : k < b.size) → k ≤ cpl a.data.toList b.data.toList → (a[k] = b[k] → k + 1 ≤ cpl a.data.toList b.data.toList) ∧ (a[k] ≠ b[k] → cpl a.data.toList b.data.toList = k)) := Lib.hid (fun k h1 h2 h3 =>
    ⟨fun h => cpl_step a.data.toList b.data.toList k h3 (by simpa using h1) (by simpa using h2) (by simpa using (show a.data[k] = b.data[k] from h)), fun h => cpl_stop a.data.toList b.data.toList k h3 (by simpa using h1) (by simpa using h2) (by simpa using (show ¬ a.data[k] = b.data[k] from h))⟩)
  have hcases : (b.size < a.size ∧ b.size ≤ m) ∨ (¬ b.size < a.size ∧ a.size ≤ m) := by omega
  have hbig : m ≤ 140737488355328 := by omega
  clear hm hcl hmn
  rcases hcases with ⟨hmin, hmm⟩ | ⟨hmin, hmm⟩
  all_goals
    have HC := Lib.hid hcm
    clear hcm
    go_enter Try.func59, Try.ntmps59
    go_wp2
    go_loopw [13] (fun i wr => ∃ k : Nat, i = .int .i64 k ∧ k ≤ m ∧ Hid (k ≤ cpl a.data.toList b.data.toList) ∧ Drew w wr) (fun i _ => m - (intOf i).toNat)
    case atStart => exact ⟨0, rfl, Nat.zero_le _, Lib.hid (Nat.zero_le _), Drew.refl w⟩
    case round =>
      obtain ⟨k, rfl, hkm, hkc, hd⟩ := hrel
      by_cases hlt : k < m
      · have hka : (k : Int) < a.size := by omega
        have hkb : (k : Int) < b.size := by omega
        have hka2 : k < a.size := by omega
        have hkb2 : k < b.size := by omega
        have hs := HS.out k hka2 hkb2 hkc.out
        by_cases he : a[k] = b[k]
        · have hne : ((a[k].toNat : Int) != (b[k].toNat : Int)) = false := by rw [he]; simp
          have H1 := Lib.hid (hs.1 he)
          clear he hs
          go_wp2
          go_quiet (fail)
          go_wp2
          go_roundw
          case rel => exact ⟨k + 1, by go_num, by omega, H1.out, hd.trans ⟨_, rfl⟩⟩
          case measure => simp [intOf]; omega
        · have hne : ((a[k].toNat : Int) != (b[k].toNat : Int)) = true := by
            have : a[k].toNat ≠ b[k].toNat := fun h => he (UInt8.toNat_inj.1 h)
            simp; omega
          have H1 := Lib.hid (hs.2 he)
          clear he hs
          go_wp2
          go_quiet (fail)
          go_wp2
          go_ret
          exact ⟨ret_i (by rw [H1.out]), hd.trans ⟨_, rfl⟩⟩
      · have H1 : Hid (cpl a.data.toList b.data.toList = k) := Lib.hid (by have := HC.out; have := hkc.out; omega)
        go_wp2
        go_ret
        exact ⟨ret_i (by rw [H1.out]; omega), hd⟩

theorem size_list (a : ByteArray) : a.data.toList.length = a.size := by simp

/-- Compare's way where one begins the other. -/
theorem cmp_len (a b : ByteArray) (h : ¬ (cpl a.data.toList b.data.toList < a.size ∧ cpl a.data.toList b.data.toList < b.size)) : cmp3 a.data.toList b.data.toList = cmpI a.size b.size := by
  have hl := cpl_le a.data.toList b.data.toList
  rw [size_list, size_list] at hl
  rw [cmp3_len _ _ (by rw [size_list, size_list]; omega), size_list, size_list]
  unfold cmpI
  simp only [Int.ofNat_lt]

theorem cmp_byte (a b : ByteArray) (n : Nat) (hn : cpl a.data.toList b.data.toList = n) (h1 : n < a.size) (h2 : n < b.size) : cmp3 a.data.toList b.data.toList = cmpI (a[n].toNat : Int) (b[n].toNat : Int) := by
  subst hn
  have hne := cpl_at a.data.toList b.data.toList (by simpa using h1) (by simpa using h2)
  rw [cmp3_byte _ _ (by simpa using h1) (by simpa using h2)]
  unfold cmpI
  have e1 : a[cpl a.data.toList b.data.toList] = a.data.toList[cpl a.data.toList b.data.toList]'(by simpa using h1) := by simp; rfl
  have e2 : b[cpl a.data.toList b.data.toList] = b.data.toList[cpl a.data.toList b.data.toList]'(by simpa using h2) := by simp; rfl
  rw [e1, e2]
  have hne2 : (a.data.toList[cpl a.data.toList b.data.toList]'(by simpa using h1)).toNat ≠ (b.data.toList[cpl a.data.toList b.data.toList]'(by simpa using h2)).toNat := fun e => hne (UInt8.toNat_inj.1 e)
  simp only [Int.ofNat_lt]
  split
  · rfl
  · rw [if_pos (by omega)]

set_option maxHeartbeats 1000000 in
theorem compare_any (a b : ByteArray) (w : World) (ha : a.size ≤ 140737488355328) (hb : b.size ≤ 140737488355328) :
    Calls Try.prog 32 #[.string a, .string b] w fun e w' => e = .returned (.int .i64 (cmp3 a.data.toList b.data.toList)) ∧ Drew w w' := by
  have hS := Lib.hid (shared_any a b w ha hb)
  have hcl := cpl_le a.data.toList b.data.toList
  rw [size_list, size_list] at hcl
  have hbyte := fun n hn h1 h2 => cmp_byte a b n hn h1 h2
  have hlen := cmp_len a b
  generalize hn : cpl a.data.toList b.data.toList = n at *
  have hca := hcl.1
  have hcb := hcl.2
  by_cases hlt : n < a.size ∧ n < b.size
  · have h1 := hlt.1
    have h2 := hlt.2
    have hna : (n : Int) < a.size := by omega
    have hnb : (n : Int) < b.size := by omega
    have HB := Lib.hid (hbyte n rfl h1 h2)
    have HR := fun W => cmpByte_any (a[n].toNat : Int) (b[n].toNat : Int) W
    generalize hC : cmpI (a[n].toNat : Int) (b[n].toNat : Int) = C at *
    generalize cmp3 a.data.toList b.data.toList = D at *
    have HR2 := Lib.hid HR
    clear hbyte hlen HR hC hn hlt hcl
    by_cases hmin : b.size < a.size
    all_goals
      go_enter Try.func32, Try.ntmps32
      go_wp2_with fail
      refine hS.out.mono ?_
      rintro e w1 ⟨rfl, hd⟩
      go_wp2
      go_quiet ((go_at_call 60; exact Calls.quiet_of_same (HR2.out _)))
      go_wp2
      go_ret
      exact ⟨ret_i HB.out.symm, hd.trans ⟨_, rfl⟩⟩
  · have HL := Lib.hid (hlen hlt)
    have HR := Lib.hid (fun W => cmpInt_any (a.size : Int) (b.size : Int) W)
    generalize cmpI (a.size : Int) (b.size : Int) = C at *
    generalize cmp3 a.data.toList b.data.toList = D at *
    clear hbyte hlen hn hcl
    by_cases hmin : b.size < a.size
    · have hnb : (b.size : Int) ≤ n := by omega
      clear hlt
      go_enter Try.func32, Try.ntmps32
      go_wp2_with fail
      refine hS.out.mono ?_
      rintro e w1 ⟨rfl, hd⟩
      go_wp2_with fail
      refine (HR.out _).mono ?_
      rintro e w2 ⟨rfl, rfl⟩
      go_wp2
      go_ret
      exact ⟨ret_i HL.out.symm, hd⟩
    · have hna : (a.size : Int) ≤ n := by omega
      clear hlt
      go_enter Try.func32, Try.ntmps32
      go_wp2_with fail
      refine hS.out.mono ?_
      rintro e w1 ⟨rfl, hd⟩
      go_wp2_with fail
      refine (HR.out _).mono ?_
      rintro e w2 ⟨rfl, rfl⟩
      go_wp2
      go_ret
      exact ⟨ret_i HL.out.symm, hd⟩
end Go.Proofs.Ytgaacoeggikbpaa
