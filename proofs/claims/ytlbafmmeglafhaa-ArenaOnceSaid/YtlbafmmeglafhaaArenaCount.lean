/- isUsed, isWithdrawn; count, Used, Withdrawn; named, Get. Condition: what an arena has is as New and Claim leave it. -/
import Derived.Test.YtlbafmmeglafhaaArenaMem
namespace Go.Proofs.Ytlbafmmeglafhaa
open Go.RowKit

theorem isUsed_any (s v : Nat) (w : World) :
    Calls Try.prog 44 #[.agg #[.int .i64 s, .int .u64 v]] w fun e w' => e = .returned (.bool (decide (s = 1))) ∧ Below w.heap.size w w' := by
  have HB := Lib.hid ((one_alloc w (.cells #[.int .i64 s, .int .u64 v] 73)).2)
  have HD : Hid (decide (s = 1) = ((s : Int) == 1)) := Lib.hid (by rw [Bool.eq_iff_iff]; simp; omega)
  go_enter Try.func44, Try.ntmps44
  go_wp2
  go_ret
  exact ⟨ret_b HD.out.symm, HB.out⟩
theorem isWithdrawn_any (s v : Nat) (w : World) :
    Calls Try.prog 45 #[.agg #[.int .i64 s, .int .u64 v]] w fun e w' => e = .returned (.bool (decide (s = 2))) ∧ Below w.heap.size w w' := by
  have HB := Lib.hid ((one_alloc w (.cells #[.int .i64 s, .int .u64 v] 73)).2)
  have HD : Hid (decide (s = 2) = ((s : Int) == 2)) := Lib.hid (by rw [Bool.eq_iff_iff]; simp; omega)
  go_enter Try.func45, Try.ntmps45
  go_wp2
  go_ret
  exact ⟨ret_b HD.out.symm, HB.out⟩

/-- How many are in a state. -/
def manyB (l : List Bk) (s : Nat) : Nat := l.countP fun p => decide (p.1 = s)
theorem many_step (l : List Bk) (s i : Nat) (hi : i < l.length) : manyB (l.take (i + 1)) s = manyB (l.take i) s + if decide (st l i = s) = true then 1 else 0 := by
  have e : l.take (i + 1) = l.take i ++ [l[i]] := by simp
  unfold manyB
  rw [e, List.countP_append, bk_eq hi]
  simp [List.countP_cons, List.countP_nil]
theorem many_le (l : List Bk) (s : Nat) : manyB l s ≤ l.length := List.countP_le_length

set_option maxHeartbeats 1000000 in
set_option maxRecDepth 100000 in
theorem count_used (b g h : Nat) (l : List Bk) (w : World) (H : ArenaAt w b g h l) :
    Calls Try.prog 43 #[.slice (some ⟨g, 0, none⟩) l.length l.length, .func (.func 44) #[] #[]] w fun e w' => e = .returned (.int .i64 (manyB l 1 : Nat)) ∧ Below w.heap.size w w' := by
  have HA := Lib.hid H
  have hl := H.len
  have HM := Lib.hid (many_step l 1)
  have HL : Hid (∀ i, manyB (l.take i) 1 ≤ 8192) := Lib.hid (fun i => Nat.le_trans (many_le _ _) (by rw [List.length_take]; have := H.len; omega))
  have HZ : Hid (manyB (l.take 0) 1 = 0) := Lib.hid rfl
  have HE : Hid (manyB (l.take l.length) 1 = manyB l 1) := Lib.hid (by rw [List.take_length])
  clear H
  generalize hn : l.length = n at *
  have HN := Lib.hid hn
  clear hn
  go_enter Try.func43, Try.ntmps43
  go_wp2
  go_loopw [5, 10] (fun c s_ wr => ∃ i : Nat, s_ = .int .i64 i ∧ i ≤ n ∧ c = .int .i64 (manyB (l.take i) 1 : Nat) ∧ Hid (Below w.heap.size w wr)) (fun _ s_ _ => n - (intOf s_).toNat)
  case atStart => exact ⟨0, rfl, Nat.zero_le _, by rw [HZ.out]; rfl, Lib.hid (Below.refl _ _)⟩
  case round =>
    obtain ⟨i, rfl, hi, rfl, hb⟩ := hrel
    by_cases hlt : i < n
    · have A := Lib.hid (HA.out.below hb.out)
      have c1 := A.out.state i (by rw [HN.out]; exact hlt)
      have c2 := A.out.gen i (by rw [HN.out]; exact hlt)
      have hm := HM.out i hlt
      have hle := HL.out i
      have hlt' : (i : Int) < n := by omega
      generalize st l i = x at *
      generalize gn l i = y at *
      have HC := Lib.hid (fun W => isUsed_any x y W)
      have HB2 := Lib.hid (fun o => hb.out.alloc hb.out.size o)
      by_cases hx : x = 1
      · rw [if_pos (by simpa using hx)] at hm
        have hd : decide (x = 1) = true := by simpa using hx
        rw [hd] at HC
        have HM2 := Lib.hid hm
        generalize manyB (l.take i) 1 = m at *
        clear hx hd hm
        go_wp2_with fail
        refine (HC.out _).mono ?_
        rintro e w2 ⟨rfl, hb2⟩
        have HB3 := Lib.hid ((HB2.out _).trans (hb2.mono (HB2.out _).size))
        clear hb2
        go_wp2
        go_roundw
        case rel => exact ⟨i + 1, by go_num, by omega, by rw [HM2.out]; go_num, HB3⟩
        case measure => simp [intOf]; omega
      · rw [if_neg (by simpa using hx)] at hm
        have hd : decide (x = 1) = false := by simpa using hx
        rw [hd] at HC
        have HM2 := Lib.hid hm
        generalize manyB (l.take i) 1 = m at *
        clear hx hd hm
        go_wp2_with fail
        refine (HC.out _).mono ?_
        rintro e w2 ⟨rfl, hb2⟩
        have HB3 := Lib.hid ((HB2.out _).trans (hb2.mono (HB2.out _).size))
        clear hb2
        go_wp2
        go_roundw
        case rel => exact ⟨i + 1, by go_num, by omega, by rw [HM2.out]; go_num, HB3⟩
        case measure => simp [intOf]; omega
    · obtain rfl : i = n := by omega
      rw [HE.out]
      go_wp2
      go_ret
      exact ⟨rfl, hb.out⟩

set_option maxHeartbeats 1000000 in
set_option maxRecDepth 100000 in
theorem count_withdrawn (b g h : Nat) (l : List Bk) (w : World) (H : ArenaAt w b g h l) :
    Calls Try.prog 43 #[.slice (some ⟨g, 0, none⟩) l.length l.length, .func (.func 45) #[] #[]] w fun e w' => e = .returned (.int .i64 (manyB l 2 : Nat)) ∧ Below w.heap.size w w' := by
  have HA := Lib.hid H
  have hl := H.len
  have HM := Lib.hid (many_step l 2)
  have HL : Hid (∀ i, manyB (l.take i) 2 ≤ 8192) := Lib.hid (fun i => Nat.le_trans (many_le _ _) (by rw [List.length_take]; have := H.len; omega))
  have HZ : Hid (manyB (l.take 0) 2 = 0) := Lib.hid rfl
  have HE : Hid (manyB (l.take l.length) 2 = manyB l 2) := Lib.hid (by rw [List.take_length])
  clear H
  generalize hn : l.length = n at *
  have HN := Lib.hid hn
  clear hn
  go_enter Try.func43, Try.ntmps43
  go_wp2
  go_loopw [5, 10] (fun c s_ wr => ∃ i : Nat, s_ = .int .i64 i ∧ i ≤ n ∧ c = .int .i64 (manyB (l.take i) 2 : Nat) ∧ Hid (Below w.heap.size w wr)) (fun _ s_ _ => n - (intOf s_).toNat)
  case atStart => exact ⟨0, rfl, Nat.zero_le _, by rw [HZ.out]; rfl, Lib.hid (Below.refl _ _)⟩
  case round =>
    obtain ⟨i, rfl, hi, rfl, hb⟩ := hrel
    by_cases hlt : i < n
    · have A := Lib.hid (HA.out.below hb.out)
      have c1 := A.out.state i (by rw [HN.out]; exact hlt)
      have c2 := A.out.gen i (by rw [HN.out]; exact hlt)
      have hm := HM.out i hlt
      have hle := HL.out i
      have hlt' : (i : Int) < n := by omega
      generalize st l i = x at *
      generalize gn l i = y at *
      have HC := Lib.hid (fun W => isWithdrawn_any x y W)
      have HB2 := Lib.hid (fun o => hb.out.alloc hb.out.size o)
      by_cases hx : x = 2
      · rw [if_pos (by simpa using hx)] at hm
        have hd : decide (x = 2) = true := by simpa using hx
        rw [hd] at HC
        have HM2 := Lib.hid hm
        generalize manyB (l.take i) 2 = m at *
        clear hx hd hm
        go_wp2_with fail
        refine (HC.out _).mono ?_
        rintro e w2 ⟨rfl, hb2⟩
        have HB3 := Lib.hid ((HB2.out _).trans (hb2.mono (HB2.out _).size))
        clear hb2
        go_wp2
        go_roundw
        case rel => exact ⟨i + 1, by go_num, by omega, by rw [HM2.out]; go_num, HB3⟩
        case measure => simp [intOf]; omega
      · rw [if_neg (by simpa using hx)] at hm
        have hd : decide (x = 2) = false := by simpa using hx
        rw [hd] at HC
        have HM2 := Lib.hid hm
        generalize manyB (l.take i) 2 = m at *
        clear hx hd hm
        go_wp2_with fail
        refine (HC.out _).mono ?_
        rintro e w2 ⟨rfl, hb2⟩
        have HB3 := Lib.hid ((HB2.out _).trans (hb2.mono (HB2.out _).size))
        clear hb2
        go_wp2
        go_roundw
        case rel => exact ⟨i + 1, by go_num, by omega, by rw [HM2.out]; go_num, HB3⟩
        case measure => simp [intOf]; omega
    · obtain rfl : i = n := by omega
      rw [HE.out]
      go_wp2
      go_ret
      exact ⟨rfl, hb.out⟩
end Go.Proofs.Ytlbafmmeglafhaa
