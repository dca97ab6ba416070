/- bowerref03.Less, Compare, Parting, Inside, Beneath on any texts: what they answer, by lists of bytes; nothing is written. Conditions: texts of at most 2^47 bytes. -/
import Derived.Test.YtajheohdhiojcaaKeyWalk
namespace Go.Proofs.Ytajheohdhiojcaa
open Go.RowKit

theorem Drew.one {w a : World} {q : Nat} (h : Drew w a) : Drew w (a.drewN q) := h.trans ⟨q, rfl⟩

/-- Less, where the texts part at n. -/
theorem less_parted (a b : ByteArray) (n : Nat) (hn : cpl a.data.toList b.data.toList = n) (h1 : n < a.size) (h2 : n < b.size) : lss a.data.toList b.data.toList = decide (a[n].toNat < b[n].toNat) := by
  rw [lss_at, hn, size_list, size_list]
  have e1 : ¬ n = a.size := by omega
  have e2 : ¬ n = b.size := by omega
  have g1 : (a.data.toList[n]?.getD 0) = a[n] := by rw [List.getElem?_eq_getElem (by simpa using h1)]; simp; rfl
  have g2 : (b.data.toList[n]?.getD 0) = b[n] := by rw [List.getElem?_eq_getElem (by simpa using h2)]; simp; rfl
  rw [g1, g2]
  simp [e1, e2]

theorem less_end (a b : ByteArray) (h : cpl a.data.toList b.data.toList = b.size) : lss a.data.toList b.data.toList = false := by
  rw [lss_at, h, size_list]; simp

theorem less_begin (a b : ByteArray) (h : cpl a.data.toList b.data.toList = a.size) (h2 : a.size < b.size) : lss a.data.toList b.data.toList = true := by
  have e : ¬ a.size = b.size := by omega
  rw [lss_at, h, size_list, size_list]; simp [e]

set_option maxHeartbeats 2000000 in
theorem less_any (a b : ByteArray) (w : World) (ha : a.size ≤ 140737488355328) (_hb : b.size ≤ 140737488355328) :
    Calls Try.prog 72 #[.string a, .string b] w fun e w' => e = .returned (.bool (lss a.data.toList b.data.toList)) ∧ Drew w w' := by
  have hcl := cpl_le a.data.toList b.data.toList
  rw [size_list, size_list] at hcl
  have HS : Hid (∀ k, (h1 : k < a.size) → (h2 : k < b.size) → k ≤ cpl a.data.toList b.data.toList → (a[k] = b[k] → k + 1 ≤ cpl a.data.toList b.data.toList) ∧ (a[k] ≠ b[k] → cpl a.data.toList b.data.toList = k)) := Lib.hid (fun k h1 h2 h3 =>
    ⟨fun h => cpl_step a.data.toList b.data.toList k h3 (by simpa using h1) (by simpa using h2) (by simpa using (show a.data[k] = b.data[k] from h)), fun h => cpl_stop a.data.toList b.data.toList k h3 (by simpa using h1) (by simpa using h2) (by simpa using (show ¬ a.data[k] = b.data[k] from h))⟩)
  have HP := Lib.hid (less_parted a b)
  have HE := Lib.hid (less_end a b)
  have HB := Lib.hid (less_begin a b)
  have HC := Lib.hid hcl
  clear hcl
  generalize cpl a.data.toList b.data.toList = n at *
  generalize lss a.data.toList b.data.toList = r at *
  go_enter Try.func72, Try.ntmps72
  go_wp2
  go_loopw [5] (fun i wr => ∃ k : Nat, i = .int .i64 k ∧ k ≤ a.size ∧ k ≤ b.size ∧ Hid (k ≤ n) ∧ Drew w wr) (fun i _ => a.size - (intOf i).toNat)
  case atStart => exact ⟨0, rfl, Nat.zero_le _, Nat.zero_le _, Lib.hid (Nat.zero_le _), Drew.refl w⟩
  case round =>
    obtain ⟨k, rfl, hka, hkb, hkc, hd⟩ := hrel
    by_cases h1 : k < a.size
    · have g1 : (k : Int) < a.size := by omega
      by_cases h2 : k < b.size
      · have g2 : (k : Int) < b.size := by omega
        have hs := HS.out k h1 h2 hkc.out
        by_cases he : a[k] = b[k]
        · have hne : ((a[k].toNat : Int) == (b[k].toNat : Int)) = true := by rw [he]; simp
          have H1 := Lib.hid (hs.1 he)
          clear he hs
          go_wp2
          go_quiet (fail)
          go_wp2
          go_roundw
          case rel => exact ⟨k + 1, by go_num, by omega, by omega, H1.out, hd.trans ⟨_, rfl⟩⟩
          case measure => simp [intOf]; omega
        · have hnn : a[k].toNat ≠ b[k].toNat := fun h => he (UInt8.toNat_inj.1 h)
          have hne : ((a[k].toNat : Int) == (b[k].toNat : Int)) = false := by simp; omega
          have H1 := Lib.hid (HP.out k (hs.2 he) h1 h2)
          have k1 : ((k : Int) == (a.size : Int)) = false := by simp; omega
          have k2 : ((k : Int) == (b.size : Int)) = false := by simp; omega
          clear he hs hnn
          go_wp2
          go_quiet (fail)
          go_wp2
          go_quiet (fail)
          go_wp2
          go_ret
          exact ⟨ret_b H1.out.symm, (hd.trans ⟨_, rfl⟩).trans ⟨_, rfl⟩⟩
      · have g2 : (b.size : Int) ≤ k := by omega
        have k2 : ((k : Int) == (b.size : Int)) = true := by simp; omega
        have d2 : decide ((k : Int) < (b.size : Int)) = false := by simp; omega
        have H1 := Lib.hid (HE.out (by have := HC.out; have := hkc.out; omega))
        go_wp2
        go_quiet (fail)
        go_wp2
        go_ret
        exact ⟨ret_b H1.out.symm, hd.trans ⟨_, rfl⟩⟩
    · have g1 : (a.size : Int) ≤ k := by omega
      have d1 : decide ((k : Int) < (a.size : Int)) = false := by simp; omega
      have k1 : ((k : Int) == (a.size : Int)) = true := by simp; omega
      by_cases h2 : k < b.size
      · have k2 : ((k : Int) == (b.size : Int)) = false := by simp; omega
        have H1 := Lib.hid (HB.out (by have := HC.out; have := hkc.out; omega) (by omega))
        go_wp2
        go_quiet (fail)
        go_wp2
        go_quiet (fail)
        go_wp2
        go_ret
        exact ⟨ret_b H1.out.symm, (hd.trans ⟨_, rfl⟩).trans ⟨_, rfl⟩⟩
      · have k2 : ((k : Int) == (b.size : Int)) = true := by simp; omega
        have H1 := Lib.hid (HE.out (by have := HC.out; have := hkc.out; omega))
        go_wp2
        go_quiet (fail)
        go_wp2
        go_ret
        exact ⟨ret_b H1.out.symm, hd.trans ⟨_, rfl⟩⟩

theorem cmp3_eq1 {a b : List UInt8} (h : lss a b = true) : cmp3 a b = -1 := by simp [cmp3, h]
theorem cmp3_eq2 {a b : List UInt8} (h : lss a b = false) (k : lss b a = true) : cmp3 a b = 1 := by simp [cmp3, h, k]
theorem cmp3_eq3 {a b : List UInt8} (h : lss a b = false) (k : lss b a = false) : cmp3 a b = 0 := by simp [cmp3, h, k]

set_option maxHeartbeats 1000000 in
theorem rcompare_any (a b : ByteArray) (w : World) (ha : a.size ≤ 140737488355328) (hb : b.size ≤ 140737488355328) :
    Calls Try.prog 44 #[.string a, .string b] w fun e w' => e = .returned (.int .i64 (cmp3 a.data.toList b.data.toList)) ∧ Drew w w' := by
  have H1 := fun W => Lib.hid (less_any a b W ha hb)
  have H2 := fun W => Lib.hid (less_any b a W hb ha)
  cases h1 : lss a.data.toList b.data.toList with
  | true =>
    rw [cmp3_eq1 h1]
    rw [h1] at H1
    clear h1
    go_enter Try.func44, Try.ntmps44
    go_wp2_with fail
    refine (H1 _).out.mono ?_
    rintro e w1 ⟨rfl, hd⟩
    go_wp2
    go_ret
    exact ⟨rfl, hd⟩
  | false =>
    cases h2 : lss b.data.toList a.data.toList with
    | true =>
      rw [cmp3_eq2 h1 h2]
      rw [h1] at H1
      rw [h2] at H2
      clear h1 h2
      go_enter Try.func44, Try.ntmps44
      go_wp2_with fail
      refine (H1 _).out.mono ?_
      rintro e w1 ⟨rfl, hd⟩
      go_wp2_with fail
      refine (H2 _).out.mono ?_
      rintro e w2 ⟨rfl, hd2⟩
      go_wp2
      go_ret
      exact ⟨rfl, hd.trans hd2⟩
    | false =>
      rw [cmp3_eq3 h1 h2]
      rw [h1] at H1
      rw [h2] at H2
      clear h1 h2
      go_enter Try.func44, Try.ntmps44
      go_wp2_with fail
      refine (H1 _).out.mono ?_
      rintro e w1 ⟨rfl, hd⟩
      go_wp2_with fail
      refine (H2 _).out.mono ?_
      rintro e w2 ⟨rfl, hd2⟩
      go_wp2
      go_ret
      exact ⟨rfl, hd.trans hd2⟩

/-- In the range. -/
def insideB (low high : List UInt8) (last : Bool) (k : List UInt8) : Bool := !lss k low && (last || lss k high)
def beneathB (low high : List UInt8) (last : Bool) (k : List UInt8) : Bool := lss low k && (last || !lss high k)

set_option maxHeartbeats 1000000 in
theorem rinside_any (lo hi : ByteArray) (last : Bool) (k : ByteArray) (w : World) (hl : lo.size ≤ 140737488355328) (hh : hi.size ≤ 140737488355328) (hk : k.size ≤ 140737488355328) :
    Calls Try.prog 49 #[.string lo, .string hi, .bool last, .string k] w fun e w' => e = .returned (.bool (insideB lo.data.toList hi.data.toList last k.data.toList)) ∧ Drew w w' := by
  have H1 := fun W => Lib.hid (less_any k lo W hk hl)
  have H2 := fun W => Lib.hid (less_any k hi W hk hh)
  unfold insideB
  cases h1 : lss k.data.toList lo.data.toList with
  | true =>
    rw [h1] at H1
    clear h1
    go_enter Try.func49, Try.ntmps49
    go_wp2_with fail
    refine (H1 _).out.mono ?_
    rintro e w1 ⟨rfl, hd⟩
    go_wp2
    go_ret
    exact ⟨ret_b (by simp), hd⟩
  | false =>
    rw [h1] at H1
    clear h1
    cases last with
    | true =>
      go_enter Try.func49, Try.ntmps49
      go_wp2_with fail
      refine (H1 _).out.mono ?_
      rintro e w1 ⟨rfl, hd⟩
      go_wp2
      go_ret
      exact ⟨ret_b (by simp), hd⟩
    | false =>
      generalize lss k.data.toList hi.data.toList = r at *
      go_enter Try.func49, Try.ntmps49
      go_wp2_with fail
      refine (H1 _).out.mono ?_
      rintro e w1 ⟨rfl, hd⟩
      go_wp2_with fail
      refine (H2 _).out.mono ?_
      rintro e w2 ⟨rfl, hd2⟩
      go_wp2
      go_ret
      exact ⟨ret_b (by simp), hd.trans hd2⟩

set_option maxHeartbeats 1000000 in
theorem rbeneath_any (lo hi : ByteArray) (last : Bool) (k : ByteArray) (w : World) (hl : lo.size ≤ 140737488355328) (hh : hi.size ≤ 140737488355328) (hk : k.size ≤ 140737488355328) :
    Calls Try.prog 51 #[.string lo, .string hi, .bool last, .string k] w fun e w' => e = .returned (.bool (beneathB lo.data.toList hi.data.toList last k.data.toList)) ∧ Drew w w' := by
  have H1 := fun W => Lib.hid (less_any lo k W hl hk)
  have H2 := fun W => Lib.hid (less_any hi k W hh hk)
  unfold beneathB
  cases h1 : lss lo.data.toList k.data.toList with
  | false =>
    rw [h1] at H1
    clear h1
    go_enter Try.func51, Try.ntmps51
    go_wp2_with fail
    refine (H1 _).out.mono ?_
    rintro e w1 ⟨rfl, hd⟩
    go_wp2
    go_ret
    exact ⟨ret_b (by simp), hd⟩
  | true =>
    rw [h1] at H1
    clear h1
    cases last with
    | true =>
      go_enter Try.func51, Try.ntmps51
      go_wp2_with fail
      refine (H1 _).out.mono ?_
      rintro e w1 ⟨rfl, hd⟩
      go_wp2
      go_ret
      exact ⟨ret_b (by simp), hd⟩
    | false =>
      generalize lss hi.data.toList k.data.toList = r at *
      go_enter Try.func51, Try.ntmps51
      go_wp2_with fail
      refine (H1 _).out.mono ?_
      rintro e w1 ⟨rfl, hd⟩
      go_wp2_with fail
      refine (H2 _).out.mono ?_
      rintro e w2 ⟨rfl, hd2⟩
      go_wp2
      go_ret
      exact ⟨ret_b (by simp), hd.trans hd2⟩
end Go.Proofs.Ytajheohdhiojcaa
