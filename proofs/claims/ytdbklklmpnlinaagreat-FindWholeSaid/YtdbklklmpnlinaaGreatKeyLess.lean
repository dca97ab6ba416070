/- bowerref03.Less on any texts: what it answers, by lists of bytes; nothing is written. Conditions: texts of at most 2^47 bytes. -/
import Derived.Test.YtdbklklmpnlinaaGreatKeyWalk
namespace Go.Proofs.YtdbklklmpnlinaaGreat
open Go.RowKit

theorem Drew.one {w a : World} {q : Nat} (h : Drew w a) : Drew w (a.drewN q) := h.trans ⟨q, rfl⟩

/-- Less, where the texts part at n. -/
theorem less_parted (a b : ByteArray) (n : Nat) (hn : cpl a.data.toList b.data.toList = n) (h1 : n < a.size) (h2 : n < b.size) : lss a.data.toList b.data.toList = decide (a[n].toNat < b[n].toNat) := by
  rw [lss_at, hn, size_list, size_list]
  have e1 : ¬ n = a.size := by omega
  have e2 : ¬ n = b.size := by omega
  have g1 : (a.data.toList[n]?.getD 0) = a[n] := by rw [List.getElem?_eq_getElem (by simpa using h1)]; simp; rfl
  have g2 : (b.data.toList[n]?.getD 0) = b[n] := by rw [List.getElem?_eq_getElem (by simpa using h2)]; simp; rfl
  rw [g1, g2]
  simp [e1, e2]

theorem less_end (a b : ByteArray) (h : cpl a.data.toList b.data.toList = b.size) : lss a.data.toList b.data.toList = false := by
  rw [lss_at, h, size_list]; simp

theorem less_begin (a b : ByteArray) (h : cpl a.data.toList b.data.toList = a.size) (h2 : a.size < b.size) : lss a.data.toList b.data.toList = true := by
  have e : ¬ a.size = b.size := by omega
  rw [lss_at, h, size_list, size_list]; simp [e]

set_option maxHeartbeats 2000000 in
theorem less_any (a b : ByteArray) (w : World) (ha : a.size ≤ 140737488355328) (_hb : b.size ≤ 140737488355328) :
    Calls Tryz.prog 118 #[.string a, .string b] w fun e w' => e = .returned (.bool (lss a.data.toList b.data.toList)) ∧ Drew w w' := by
  have hcl := cpl_le a.data.toList b.data.toList
  rw [size_list, size_list] at hcl
  have HS : Hid (∀ k, (h1 : k < a.size) → (h2 : k < b.size) → k ≤ cpl a.data.toList b.data.toList → (a[k] = b[k] → k + 1 ≤ cpl a.data.toList b.data.toList) ∧ (a[k] ≠ b[k] → cpl a.data.toList b.data.toList = k)) := Lib.hid (fun k h1 h2 h3 =>
    ⟨fun h => cpl_step a.data.toList b.data.toList k h3 (by simpa using h1) (by simpa using h2) (by simpa using (show a.data[k] = b.data[k] from h)), fun h => cpl_stop a.data.toList b.data.toList k h3 (by simpa using h1) (by simpa using h2) (by simpa using (show ¬ a.data[k] = b.data[k] from h))⟩)
  have HP := Lib.hid (less_parted a b)
  have HE := Lib.hid (less_end a b)
  have HB := Lib.hid (less_begin a b)
  have HC := Lib.hid hcl
  clear hcl
  generalize cpl a.data.toList b.data.toList = n at *
  generalize lss a.data.toList b.data.toList = r at *
  go_enter Tryz.func118, Tryz.ntmps118
  go_wp2
  go_loopw [5] (fun i wr => ∃ k : Nat, i = .int .i64 k ∧ k ≤ a.size ∧ k ≤ b.size ∧ Hid (k ≤ n) ∧ Drew w wr) (fun i _ => a.size - (intOf i).toNat)
  case atStart => exact ⟨0, rfl, Nat.zero_le _, Nat.zero_le _, Lib.hid (Nat.zero_le _), Drew.refl w⟩
  case round =>
    obtain ⟨k, rfl, hka, hkb, hkc, hd⟩ := hrel
    by_cases h1 : k < a.size
    · have g1 : (k : Int) < a.size := by omega
      by_cases h2 : k < b.size
      · have g2 : (k : Int) < b.size := by omega
        have hs := HS.out k h1 h2 hkc.out
        by_cases he : a[k] = b[k]
        · have hne : ((a[k].toNat : Int) == (b[k].toNat : Int)) = true := by rw [he]; simp
          have H1 := Lib.hid (hs.1 he)
          clear he hs
          go_wp2
          go_quiet (fail)
          go_wp2
          go_roundw
          case rel => exact ⟨k + 1, by go_num, by omega, by omega, H1.out, hd.trans ⟨_, rfl⟩⟩
          case measure => simp [intOf]; omega
        · have hnn : a[k].toNat ≠ b[k].toNat := fun h => he (UInt8.toNat_inj.1 h)
          have hne : ((a[k].toNat : Int) == (b[k].toNat : Int)) = false := by simp; omega
          have H1 := Lib.hid (HP.out k (hs.2 he) h1 h2)
          have k1 : ((k : Int) == (a.size : Int)) = false := by simp; omega
          have k2 : ((k : Int) == (b.size : Int)) = false := by simp; omega
          clear he hs hnn
          go_wp2
          go_quiet (fail)
          go_wp2
          go_quiet (fail)
          go_wp2
          go_ret
          exact ⟨ret_b H1.out.symm, (hd.trans ⟨_, rfl⟩).trans ⟨_, rfl⟩⟩
      · have g2 : (b.size : Int) ≤ k := by omega
        have k2 : ((k : Int) == (b.size : Int)) = true := by simp; omega
        have d2 : decide ((k : Int) < (b.size : Int)) = false := by simp; omega
        have H1 := Lib.hid (HE.out (by have := HC.out; have := hkc.out; omega))
        go_wp2
        go_quiet (fail)
        go_wp2
        go_ret
        exact ⟨ret_b H1.out.symm, hd.trans ⟨_, rfl⟩⟩
    · have g1 : (a.size : Int) ≤ k := by omega
      have d1 : decide ((k : Int) < (a.size : Int)) = false := by simp; omega
      have k1 : ((k : Int) == (a.size : Int)) = true := by simp; omega
      by_cases h2 : k < b.size
      · have k2 : ((k : Int) == (b.size : Int)) = false := by simp; omega
        have H1 := Lib.hid (HB.out (by have := HC.out; have := hkc.out; omega) (by omega))
        go_wp2
        go_quiet (fail)
        go_wp2
        go_quiet (fail)
        go_wp2
        go_ret
        exact ⟨ret_b H1.out.symm, (hd.trans ⟨_, rfl⟩).trans ⟨_, rfl⟩⟩
      · have k2 : ((k : Int) == (b.size : Int)) = true := by simp; omega
        have H1 := Lib.hid (HE.out (by have := HC.out; have := hkc.out; omega))
        go_wp2
        go_quiet (fail)
        go_wp2
        go_ret
        exact ⟨ret_b H1.out.symm, hd.trans ⟨_, rfl⟩⟩

end Go.Proofs.YtdbklklmpnlinaaGreat
