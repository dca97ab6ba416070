/- Used, Withdrawn; named, Get, Put, Free, Claim. Condition: what an arena has is as New and Claim leave it; words are words. -/
import Derived.Test.YtlbafmmeglafhaaArenaCount
import Derived.Test.YtlbafmmeglafhaaRefMath
import Derived.RegionTactic
namespace Go.Proofs.Ytlbafmmeglafhaa
open Go.RowKit

theorem used_any (b g h : Nat) (l : List Bk) (w : World) (H : ArenaAt w b g h l) :
    Calls Try.prog 14 #[.pointer (some ⟨b, 0, none⟩)] w fun e w' => e = .returned (.int .i64 (manyB l 1 : Nat)) ∧ Below w.heap.size w w' := by
  have HA := Lib.hid (all_any b g h l w H)
  have HC := Lib.hid (count_used b g h l w H)
  clear H
  go_enter Try.func14, Try.ntmps14
  go_wp2_with fail
  refine HA.out.mono ?_
  rintro e w1 ⟨rfl, rfl⟩
  go_wp2_with fail
  refine HC.out.mono ?_
  rintro e w1 ⟨rfl, hb⟩
  have HB := Lib.hid hb
  clear hb
  go_wp2
  go_ret
  exact ⟨rfl, HB.out⟩
theorem withdrawn_any (b g h : Nat) (l : List Bk) (w : World) (H : ArenaAt w b g h l) :
    Calls Try.prog 15 #[.pointer (some ⟨b, 0, none⟩)] w fun e w' => e = .returned (.int .i64 (manyB l 2 : Nat)) ∧ Below w.heap.size w w' := by
  have HA := Lib.hid (all_any b g h l w H)
  have HC := Lib.hid (count_withdrawn b g h l w H)
  clear H
  go_enter Try.func15, Try.ntmps15
  go_wp2_with fail
  refine HA.out.mono ?_
  rintro e w1 ⟨rfl, rfl⟩
  go_wp2_with fail
  refine HC.out.mono ?_
  rintro e w1 ⟨rfl, hb⟩
  have HB := Lib.hid hb
  clear hb
  go_wp2
  go_ret
  exact ⟨rfl, HB.out⟩
theorem count_none (f : Value) (w : World) :
    Calls Try.prog 43 #[.slice none 0 0, f] w fun e w' => e = .returned (.int .i64 0) ∧ w = w' := by
  go_enter Try.func43, Try.ntmps43
  go_wp2
  go_loopw [5, 10] (fun c s_ wr => c = .int .i64 0 ∧ s_ = .int .i64 0 ∧ w = wr) (fun _ _ _ => 0)
  case atStart => exact ⟨rfl, rfl, rfl⟩
  case round =>
    obtain ⟨rfl, rfl, rfl⟩ := hrel
    go_wp2
    go_ret
    exact ⟨rfl, rfl⟩
theorem used_nil (w : World) :
    Calls Try.prog 14 #[.pointer none] w fun e w' => e = .returned (.int .i64 0) ∧ w = w' := by
  have HA := Lib.hid (all_nil w)
  have HC := Lib.hid (fun f => count_none f w)
  go_enter Try.func14, Try.ntmps14
  go_wp2_with fail
  refine HA.out.mono ?_
  rintro e w1 ⟨rfl, rfl⟩
  go_wp2_with fail
  refine (HC.out _).mono ?_
  rintro e w1 ⟨rfl, rfl⟩
  go_wp2
  go_ret
  exact ⟨rfl, rfl⟩
theorem withdrawn_nil (w : World) :
    Calls Try.prog 15 #[.pointer none] w fun e w' => e = .returned (.int .i64 0) ∧ w = w' := by
  have HA := Lib.hid (all_nil w)
  have HC := Lib.hid (fun f => count_none f w)
  go_enter Try.func15, Try.ntmps15
  go_wp2_with fail
  refine HA.out.mono ?_
  rintro e w1 ⟨rfl, rfl⟩
  go_wp2_with fail
  refine (HC.out _).mono ?_
  rintro e w1 ⟨rfl, rfl⟩
  go_wp2
  go_ret
  exact ⟨rfl, rfl⟩

/-- Why a word names no block, 0 if it does; and its place. -/
def atE (l : List Bk) (w : Nat) : Nat := if openOk w = true ∧ openP w < l.length then (if gn l (openP w) = openG w then (if st l (openP w) = 1 then 0 else 24) else 23) else 20
def atP (l : List Bk) (w : Nat) : Nat := if atE l w = 0 then openP w else 0

theorem at_ways (l : List Bk) (w : Nat) :
    (openOk w = false ∧ atE l w = 20 ∧ atP l w = 0) ∨ (openOk w = true ∧ ¬ openP w < l.length ∧ atE l w = 20 ∧ atP l w = 0) ∨ (openOk w = true ∧ openP w < l.length ∧ gn l (openP w) ≠ openG w ∧ atE l w = 23 ∧ atP l w = 0) ∨
    (openOk w = true ∧ openP w < l.length ∧ gn l (openP w) = openG w ∧ st l (openP w) ≠ 1 ∧ atE l w = 24 ∧ atP l w = 0) ∨ (openOk w = true ∧ openP w < l.length ∧ gn l (openP w) = openG w ∧ st l (openP w) = 1 ∧ atE l w = 0 ∧ openP w = atP l w) := by
  unfold atP atE
  cases ho : openOk w with
  | false => exact Or.inl (by simp)
  | true =>
    by_cases h1 : openP w < l.length
    · by_cases h2 : gn l (openP w) = openG w
      · by_cases h3 : st l (openP w) = 1
        · exact Or.inr (Or.inr (Or.inr (Or.inr (by simp [h1, h2, h3]))))
        · exact Or.inr (Or.inr (Or.inr (Or.inl (by simp [h1, h2, h3]))))
      · exact Or.inr (Or.inr (Or.inl (by simp [h1, h2])))
    · exact Or.inr (Or.inl (by simp [h1]))

theorem named_zero (v : Value) (word : Nat) (w : World) (hl : Calls Try.prog 13 #[v] w fun e w' => e = .returned (.int .i64 (0 : Nat)) ∧ w = w') :
    Calls Try.prog 41 #[v, .int .u64 word] w fun e w' => e = .returned (.tuple #[.int .i64 0, .int .i64 1]) ∧ w = w' := by
  have HL := Lib.hid hl
  clear hl
  go_enter Try.func41, Try.ntmps41
  go_wp2_with fail
  refine HL.out.mono ?_
  rintro e w1 ⟨rfl, rfl⟩
  go_wp2
  go_ret2
  exact ⟨rfl, rfl⟩

set_option maxHeartbeats 4000000 in
theorem named_any (b g h : Nat) (l : List Bk) (word : Nat) (hw : word < 18446744073709551616) (w : World) (H : ArenaAt w b g h l) :
    Calls Try.prog 41 #[.pointer (some ⟨b, 0, none⟩), .int .u64 word] w fun e w' => e = .returned (.tuple #[.int .i64 (atP l word : Nat), .int .i64 (atE l word : Nat)]) ∧ Below w.heap.size w w' := by
  have HO := Lib.hid (open_any word hw w)
  have HL := Lib.hid (aLen_any b g h l w H)
  have HH := Lib.hid (fun W1 (hb : Below w.heap.size w W1) => has_len _ l.length (openP word : Nat) W1 (aLen_any b g h l W1 (H.below hb)))
  have HA := Lib.hid (fun W1 (hb : Below w.heap.size w W1) => H.below hb)
  have HU := Lib.hid (fun s v W1 => isUsed_any s v W1)
  have hways := at_ways l word
  have hlen := H.len
  have hin := inB_iff (openP word : Nat) l.length
  have hz : ((l.length : Int) == 0) = false := beq_eq_false_iff_ne.2 (by omega)
  clear H hw
  generalize openP word = p at *
  generalize openG word = v at *
  generalize atE l word = ae at *
  generalize atP l word = ap at *
  rcases hways with ⟨h1, rfl, rfl⟩ | ⟨h1, h2, rfl, rfl⟩ | ⟨h1, h2, h3, rfl, rfl⟩ | ⟨h1, h2, h3, h4, rfl, rfl⟩ | ⟨h1, h2, h3, h4, rfl, rfl⟩
  · rw [h1] at HO
    clear h1 hin
    generalize l.length = n at *
    go_enter Try.func41, Try.ntmps41
    go_wp2_with fail
    refine HL.out.mono ?_
    rintro e w1 ⟨rfl, rfl⟩
    go_wp2_with fail
    refine HO.out.mono ?_
    rintro e w1 ⟨rfl, hb⟩
    have HB := Lib.hid hb
    clear hb
    go_wp2
    go_ret2
    exact ⟨rfl, HB.out⟩
  · rw [h1] at HO
    rw [bool_not hin (by omega)] at HH
    clear h1 hin h2
    generalize l.length = n at *
    go_enter Try.func41, Try.ntmps41
    go_wp2_with fail
    refine HL.out.mono ?_
    rintro e w1 ⟨rfl, rfl⟩
    go_wp2_with fail
    refine HO.out.mono ?_
    rintro e w1 ⟨rfl, hb⟩
    have HB := Lib.hid hb
    clear hb
    go_wp2_with fail
    refine (HH.out _ HB.out).mono ?_
    rintro e w2 ⟨rfl, rfl⟩
    go_wp2
    go_ret2
    exact ⟨rfl, HB.out⟩
  all_goals
    rw [h1] at HO
    rw [hin.2 ⟨by omega, by omega⟩] at HH
    have HC := Lib.hid (fun W1 (hb : Below w.heap.size w W1) => And.intro (HA.out W1 hb).c0 (And.intro ((HA.out W1 hb).state p h2) ((HA.out W1 hb).gen p h2)))
    have h2' : (p : Int) < l.length := by omega
    clear h1 hin HA
    generalize st l p = s at *
    generalize gn l p = x at *
    generalize l.length = n at *
  · have hne : ((x : Int) != (v : Int)) = true := by rw [bne_iff_ne]; omega
    clear h3
    go_enter Try.func41, Try.ntmps41
    go_wp2_with fail
    refine HL.out.mono ?_
    rintro e w1 ⟨rfl, rfl⟩
    go_wp2_with fail
    refine HO.out.mono ?_
    rintro e w1 ⟨rfl, hb⟩
    have HB := Lib.hid hb
    clear hb
    go_wp2_with fail
    refine (HH.out _ HB.out).mono ?_
    rintro e w2 ⟨rfl, rfl⟩
    obtain ⟨c0, c1, c2⟩ := HC.out _ HB.out
    go_wp2
    go_ret2
    exact ⟨rfl, HB.out.alloc HB.out.size _⟩
  · have hne : ((x : Int) != (v : Int)) = false := by rw [h3]; simp
    have hs : decide (s = 1) = false := by simpa using h4
    have HU1 := Lib.hid (fun W => HU.out s x W)
    rw [hs] at HU1
    clear h3 hs HU
    go_enter Try.func41, Try.ntmps41
    go_wp2_with fail
    refine HL.out.mono ?_
    rintro e w1 ⟨rfl, rfl⟩
    go_wp2_with fail
    refine HO.out.mono ?_
    rintro e w1 ⟨rfl, hb⟩
    have HB := Lib.hid hb
    clear hb
    go_wp2_with fail
    refine (HH.out _ HB.out).mono ?_
    rintro e w2 ⟨rfl, rfl⟩
    obtain ⟨c0, c1, c2⟩ := HC.out _ HB.out
    have HB2 := Lib.hid (fun o => HB.out.alloc HB.out.size o)
    go_wp2_with fail
    refine (HU1.out _).mono ?_
    rintro e w2 ⟨rfl, hb⟩
    have HB3 := Lib.hid ((HB2.out _).trans (hb.mono (HB2.out _).size))
    clear hb
    go_wp2
    go_ret2
    exact ⟨rfl, HB3.out⟩
  · have hne : ((x : Int) != (v : Int)) = false := by rw [h3]; simp
    have hs : decide (s = 1) = true := by simpa using h4
    have HU1 := Lib.hid (fun W => HU.out s x W)
    rw [hs] at HU1
    clear h3 h4 hs HU
    go_enter Try.func41, Try.ntmps41
    go_wp2_with fail
    refine HL.out.mono ?_
    rintro e w1 ⟨rfl, rfl⟩
    go_wp2_with fail
    refine HO.out.mono ?_
    rintro e w1 ⟨rfl, hb⟩
    have HB := Lib.hid hb
    clear hb
    go_wp2_with fail
    refine (HH.out _ HB.out).mono ?_
    rintro e w2 ⟨rfl, rfl⟩
    obtain ⟨c0, c1, c2⟩ := HC.out _ HB.out
    have HB2 := Lib.hid (fun o => HB.out.alloc HB.out.size o)
    go_wp2_with fail
    refine (HU1.out _).mono ?_
    rintro e w2 ⟨rfl, hb⟩
    have HB3 := Lib.hid ((HB2.out _).trans (hb.mono (HB2.out _).size))
    clear hb
    go_wp2
    go_ret2
    exact ⟨rfl, HB3.out⟩
end Go.Proofs.Ytlbafmmeglafhaa
