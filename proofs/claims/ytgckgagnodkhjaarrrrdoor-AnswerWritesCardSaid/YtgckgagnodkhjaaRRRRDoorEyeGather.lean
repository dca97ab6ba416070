/- sip.gather and (*sip.Eye).Num at an eye that is not nil, by a plain function on bytes. Conditions: 'most' is a number of 64 bits without a sign. -/
import Derived.Test.YtgckgagnodkhjaaRRRRDoorEyeNext
import Derived.Lib.VarintBits
import Derived.Lib.VarintMem
namespace Go.Proofs.YtgckgagnodkhjaaRRRRDoor
open Go.RowKit

/-- What is gathered: k digits may still come that have room for all their bits, i have come, n is their number: the number, the fault, and what is left. -/
def gat : Nat → Nat → Nat → List UInt8 → Nat × Int × List UInt8
  | _, _, _, [] => (0, 11, [])
  | 0, _, n, b :: r => if b.toNat = 1 then (n + 9223372036854775808, 0, r) else (0, 10, r)
  | k + 1, i, n, b :: r => if b.toNat < 128 then (if b.toNat = 0 ∧ 0 < i then (0, 10, r) else (n + b.toNat * 128 ^ i, 0, r)) else gat k (i + 1) (n + (b.toNat - 128) * 128 ^ i) r

def Gathered (w w' : World) (eb : Nat) (f : Int) (e : Ending) (r : Nat × Int × List UInt8) : Prop :=
  e = .returned (.tuple #[.int .u64 (r.1 : Nat), .int .i64 r.2.1]) ∧ Took w w' eb r.2.2 f

theorem or_digit (i n d : Nat) (hi : i ≤ 8) (hn : n < 128 ^ i) (hd : d < 128) : bits .or .u64 (n : Int) ((d * 128 ^ i : Nat) : Int) = ((n + d * 128 ^ i : Nat) : Int) := by
  have hp : (128 : Nat) ^ i = 2 ^ (7 * i) := by rw [Nat.pow_mul]
  have hle : (2 : Nat) ^ (7 * i) ≤ 2 ^ 56 := Nat.pow_le_pow_right (by decide) (by omega)
  have hx : d * 2 ^ (7 * i) < 2 ^ 63 := by
    have : d * 2 ^ (7 * i) ≤ 127 * 2 ^ 56 := Nat.mul_le_mul (by omega) hle
    omega
  rw [hp] at hn ⊢
  have h := bits_nat .u64 64 (by decide) wraps_u64 n (d * 2 ^ (7 * i)) (by omega) (by omega)
  rw [h.2]
  congr 1
  rw [Nat.mul_comm d, Nat.or_comm, ← Nat.two_pow_add_eq_or_of_lt hn]
  omega

theorem or_val (i n b : Nat) (hi : i ≤ 8) (hn : n < 128 ^ i) : bits .or .u64 (n : Int) (IntKind.u64.wrap ((b : Int) % 128 * 2 ^ (7 * i))) = ((n + b % 128 * 128 ^ i : Nat) : Int) := by
  have hp : (128 : Nat) ^ i = 2 ^ (7 * i) := by rw [Nat.pow_mul]
  have hle : (2 : Nat) ^ (7 * i) ≤ 2 ^ 56 := Nat.pow_le_pow_right (by decide) (by omega)
  have hx : b % 128 * 2 ^ (7 * i) < 2 ^ 63 := by
    have : b % 128 * 2 ^ (7 * i) ≤ 127 * 2 ^ 56 := Nat.mul_le_mul (by omega) hle
    omega
  have e : ((b : Int) % 128 * 2 ^ (7 * i)) = ((b % 128 * 2 ^ (7 * i) : Nat) : Int) := by
    rw [Int.natCast_mul, Int.natCast_emod, Int.natCast_pow]
    rfl
  rw [e, wraps_u64 _ (by omega) (by omega), ← hp]
  exact or_digit i n (b % 128) hi hn (by omega)

theorem or_zz : bits .or .u64 ((0 : Nat) : Int) (IntKind.u64.wrap 0) = 0 := by decide +kernel

theorem gat_step (i n : Nat) (b : UInt8) (rs : List UInt8) (hi : i < 9) : gat (9 - i) i n (b :: rs) =
    if b.toNat < 128 then (if b.toNat = 0 ∧ 0 < i then (0, 10, rs) else (n + b.toNat * 128 ^ i, 0, rs)) else gat (9 - (i + 1)) (i + 1) (n + (b.toNat - 128) * 128 ^ i) rs := by
  rw [show 9 - i = (9 - (i + 1)) + 1 by omega]
  rfl

theorem gat_end (k i n : Nat) : gat k i n [] = (0, 11, []) := by unfold gat; rfl

theorem step_lt (i n d : Nat) (hn : n < 128 ^ i) (hd : d < 128) : n + d * 128 ^ i < 128 ^ (i + 1) := by
  have : (d + 1) * 128 ^ i ≤ 128 * 128 ^ i := Nat.mul_le_mul_right _ (by omega)
  rw [Nat.pow_succ, Nat.mul_comm (128 ^ i)]
  rw [Nat.add_mul] at this
  omega

set_option maxHeartbeats 4000000 in
set_option maxRecDepth 100000 in
theorem gather_any (eb : Nat) (f : Int) (bs : List UInt8) (w : World) (he : Eye w eb bs f) :
    Calls Tryd.prog 39 #[.func (.func 40) #[.pointer (some ⟨eb, 0, none⟩)] #[]] w fun e w' => Gathered w w' eb f e (gat 9 0 0 bs) := by
  go_enter Tryd.func39, Tryd.ntmps39
  go_wp2
  go_loopw [4, 10] (fun vn vi wr => ∃ (n i : Nat) (rs : List UInt8), vn = .int .u64 n ∧ vi = .int .i64 i ∧ i ≤ 9 ∧ n < 128 ^ i ∧ gat 9 0 0 bs = gat (9 - i) i n rs ∧ Took w wr eb rs f) (fun _ vi _ => 9 - (intOf vi).toNat)
  case atStart => exact ⟨0, 0, bs, rfl, rfl, by omega, by simp, rfl, he, Ew.refl _ _⟩
  case round =>
    obtain ⟨n, i, rs, rfl, rfl, hi, hn, hg, hr, hw⟩ := hrel
    have HG := Lib.hid hg
    clear hg
    by_cases hi9 : i < 9
    · cases rs with
      | nil =>
        go_wp2_with fail
        refine (next_end eb f _ hr).mono ?_
        rintro e w1 ⟨rfl, rfl⟩
        go_wp2
        go_ret2
        unfold Gathered
        rw [HG.out, gat_end]
        exact ⟨rfl, hr, hw⟩
      | cons b rs =>
        have hb := b.toNat_lt
        have hov := or_val i n b.toNat (by omega) hn
        have HO := Lib.hid hov
        have HN := Lib.hid hn
        clear hov hn
        have hand : bits .and .u8 (b.toNat : Int) 127 = ((b.toNat % 128 : Nat) : Int) := by
          rw [u8_and127 _ (by omega) (by omega)]; omega
        have HS := Lib.hid (gat_step i n b rs hi9)
        go_wp2_with fail
        refine (next_any eb f b rs _ hr).mono ?_
        rintro e w1 ⟨rfl, hr1, hw1⟩
        go_wp2
        · go_ret2
          have h1 : b.toNat = 0 := by assumption
          have h2 : 0 < i := by assumption
          unfold Gathered
          rw [HG.out, HS.out, if_pos (by omega), if_pos ⟨h1, h2⟩]
          exact ⟨rfl, hr1, hw.trans hw1⟩
        · go_ret2
          have h1 : b.toNat = 0 := by assumption
          have h2 : ¬ 0 < i := by assumption
          have hi0 : i = 0 := by omega
          have hn0 : n = 0 := by have := HN.out; rw [hi0] at this; omega
          unfold Gathered
          rw [HG.out, HS.out, if_pos (by omega), if_neg (by omega), hn0, h1, or_zz, Nat.zero_mul]
          exact ⟨rfl, hr1, hw.trans hw1⟩
        · go_ret2
          have h0 : (b.toNat : Int) < 128 := by assumption
          have h1 : ¬ b.toNat = 0 := by assumption
          unfold Gathered
          rw [HG.out, HS.out, if_pos (by omega), if_neg (by omega), HO.out]
          refine ⟨?_, hr1, hw.trans hw1⟩
          rw [Nat.mod_eq_of_lt (by omega)]
          rfl
        · have h0 : 128 ≤ (b.toNat : Int) := by assumption
          go_roundw
          case rel =>
            refine ⟨n + (b.toNat - 128) * 128 ^ i, i + 1, rs, ?_, by go_num, by omega, step_lt i n _ HN.out (by omega), ?_, hr1, hw.trans hw1⟩
            · rw [HO.out, show b.toNat % 128 = b.toNat - 128 by omega]
            · rw [HG.out, HS.out, if_neg (by omega)]
          case measure => simp [intOf]; omega
    · have hi9' : i = 9 := by omega
      subst hi9'
      cases rs with
      | nil =>
        go_wp2_with fail
        refine (next_end eb f _ hr).mono ?_
        rintro e w1 ⟨rfl, rfl⟩
        go_wp2
        go_ret2
        unfold Gathered
        rw [HG.out, gat_end]
        exact ⟨rfl, hr, hw⟩
      | cons b rs =>
        have hb := b.toNat_lt
        have hov := u64_orv63 (n : Int) 9223372036854775808 (by omega) (by omega) (by omega) (by omega) (by omega)
        have HO := Lib.hid hov
        have HN := Lib.hid hn
        clear hov hn
        have HS : Hid (gat (9 - 9) 9 n (b :: rs) = if b.toNat = 1 then (n + 9223372036854775808, 0, rs) else (0, 10, rs)) := Lib.hid rfl
        go_wp2_with fail
        refine (next_any eb f b rs _ hr).mono ?_
        rintro e w1 ⟨rfl, hr1, hw1⟩
        by_cases h1 : b.toNat = 1
        · have hbne : ((b.toNat : Int) != 1) = false := by simp; omega
          have H1 := Lib.hid h1
          clear h1
          go_wp2
          go_ret2
          unfold Gathered
          rw [HG.out, HS.out, if_pos H1.out, HO.out]
          exact ⟨rfl, hr1, hw.trans hw1⟩
        · have hbne : ((b.toNat : Int) != 1) = true := by simp; omega
          have H1 := Lib.hid h1
          clear h1
          go_wp2
          go_ret2
          unfold Gathered
          rw [HG.out, HS.out, if_neg H1.out]
          exact ⟨rfl, hr1, hw.trans hw1⟩

/-- What Num reads: what was gathered, or a fault. -/
def rnum (most : Nat) (bs : List UInt8) : Nat × Int × List UInt8 :=
  let r := gat 9 0 0 bs
  if r.2.1 = 0 ∧ most < r.1 then (0, 10, []) else if r.2.1 = 0 then (r.1, 0, r.2.2) else (0, r.2.1, [])

def NumDone (w w' : World) (eb : Nat) (e : Ending) (r : Nat × Int × List UInt8) : Prop :=
  e = .returned (.int .u64 (r.1 : Nat)) ∧ Took w w' eb r.2.2 r.2.1

theorem gat_fault : ∀ (k i n : Nat) (bs : List UInt8), (gat k i n bs).2.1 = 0 ∨ (gat k i n bs).2.1 = 10 ∨ (gat k i n bs).2.1 = 11
  | _, _, _, [] => by simp [gat_end]
  | 0, _, n, b :: r => by unfold gat; split <;> simp
  | k + 1, i, n, b :: r => by
    unfold gat
    split
    · split <;> simp
    · exact gat_fault k (i + 1) _ r

set_option maxHeartbeats 1600000 in
set_option maxRecDepth 100000 in
/-- Num at an eye without a fault. -/
theorem eyeNum_any (eb most : Nat) (bs : List UInt8) (w : World) (he : Eye w eb bs 0) :
    Calls Tryd.prog 34 #[.pointer (some ⟨eb, 0, none⟩), .int .u64 most] w fun e w' => NumDone w w' eb e (rnum most bs) := by
  have hgf := gat_fault 9 0 0 bs
  have hR : Hid (rnum most bs = if (gat 9 0 0 bs).2.1 = 0 ∧ most < (gat 9 0 0 bs).1 then (0, 10, []) else if (gat 9 0 0 bs).2.1 = 0 then ((gat 9 0 0 bs).1, 0, (gat 9 0 0 bs).2.2) else (0, (gat 9 0 0 bs).2.1, [])) := Lib.hid rfl
  have hga := gather_any eb 0 bs w he
  have HA := Lib.hid hga
  clear hga
  generalize gat 9 0 0 bs = g at *
  obtain ⟨n, f, rs⟩ := g
  simp only at hgf
  by_cases h0 : f = 0
  · subst h0
    by_cases h1 : most < n
    · have hd : decide ((most : Int) < (n : Int)) = true := by simp; omega
      go_enter Tryd.func34, Tryd.ntmps34
      go_wp2_with fail
      refine HA.out.mono ?_
      rintro e w1 ⟨rfl, hg⟩
      go_wp2_with fail
      refine (fail_first eb 10 _ _ hg.1).mono ?_
      rintro e w2 ⟨rfl, hf⟩
      go_wp2
      go_ret
      unfold NumDone
      rw [show rnum most bs = (0, 10, []) by rw [hR.out]; simp [h1]]
      exact ⟨rfl, hf.1, hg.2.trans hf.2⟩
    · have hd : decide ((most : Int) < (n : Int)) = false := by simp; omega
      go_enter Tryd.func34, Tryd.ntmps34
      go_wp2_with fail
      refine HA.out.mono ?_
      rintro e w1 ⟨rfl, hg⟩
      go_wp2
      go_ret
      unfold NumDone
      rw [show rnum most bs = (n, 0, rs) by rw [hR.out]; simp [h1]]
      exact ⟨rfl, hg⟩
  · have hd : (f == 0) = false := by simpa using h0
    have hd2 : (f != 0) = true := by simpa using h0
    have H0 := Lib.hid h0
    clear h0
    go_enter Tryd.func34, Tryd.ntmps34
    go_wp2_with fail
    refine HA.out.mono ?_
    rintro e w1 ⟨rfl, hg⟩
    go_wp2_with fail
    refine (fail_first eb f _ _ hg.1).mono ?_
    rintro e w2 ⟨rfl, hf⟩
    go_wp2
    go_ret
    unfold NumDone
    rw [show rnum most bs = (0, f, []) by rw [hR.out]; simp [H0.out]]
    exact ⟨rfl, hf.1, hg.2.trans hf.2⟩
end Go.Proofs.YtgckgagnodkhjaaRRRRDoor
