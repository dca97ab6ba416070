/- memory's Node, Use, Announce, Done, Phase, Gate, Hazard, Arena, Threads, Len, Load, of any memory. Condition: as in MemBase. -/
import Derived.Test.YtkdjcikilabehaaMemBase
import Derived.Test.YtkdjcikilabehaaMemCell
namespace Go.Proofs.Ytkdjcikilabehaa
open Go.RowKit
theorem mNode_any (v cp bs rs : Value) (A T : Nat) (i : Int) (w : World) (h : Mem w v A T cp bs rs) :
    Calls Try.prog 17 #[v, .int .i64 i] w fun e w' => e = .returned (.int .i64 (atM A T 0 i)) ∧ Below w.heap.size w w' := by
  have HA := Lib.hid (h w (Below.refl _ _))
  clear h
  go_enter Try.func17, Try.ntmps17
  go_wp2_with fail
  refine HA.out.mono ?_
  rintro e w1 ⟨o, rfl, hm, hb⟩
  have HT := Lib.hid (at_any o A T 0 i cp bs rs (by decide) w1 hm)
  have HB := Lib.hid hb
  clear hm hb
  go_wp2_with fail
  refine HT.out.mono ?_
  rintro e w2 ⟨rfl, rfl⟩
  go_wp2
  go_ret
  exact ⟨rfl, HB.out⟩
theorem mUse_any (v cp bs rs : Value) (A T : Nat) (i : Int) (w : World) (h : Mem w v A T cp bs rs) :
    Calls Try.prog 25 #[v, .int .i64 i] w fun e w' => e = .returned (.int .i64 (atM A T 1 i)) ∧ Below w.heap.size w w' := by
  have HA := Lib.hid (h w (Below.refl _ _))
  clear h
  go_enter Try.func25, Try.ntmps25
  go_wp2_with fail
  refine HA.out.mono ?_
  rintro e w1 ⟨o, rfl, hm, hb⟩
  have HT := Lib.hid (at_any o A T 1 i cp bs rs (by decide) w1 hm)
  have HB := Lib.hid hb
  clear hm hb
  go_wp2_with fail
  refine HT.out.mono ?_
  rintro e w2 ⟨rfl, rfl⟩
  go_wp2
  go_ret
  exact ⟨rfl, HB.out⟩
theorem mAnnounce_any (v cp bs rs : Value) (A T : Nat) (i : Int) (w : World) (h : Mem w v A T cp bs rs) :
    Calls Try.prog 26 #[v, .int .i64 i] w fun e w' => e = .returned (.int .i64 (atM A T 2 i)) ∧ Below w.heap.size w w' := by
  have HA := Lib.hid (h w (Below.refl _ _))
  clear h
  go_enter Try.func26, Try.ntmps26
  go_wp2_with fail
  refine HA.out.mono ?_
  rintro e w1 ⟨o, rfl, hm, hb⟩
  have HT := Lib.hid (at_any o A T 2 i cp bs rs (by decide) w1 hm)
  have HB := Lib.hid hb
  clear hm hb
  go_wp2_with fail
  refine HT.out.mono ?_
  rintro e w2 ⟨rfl, rfl⟩
  go_wp2
  go_ret
  exact ⟨rfl, HB.out⟩
theorem mDone_any (v cp bs rs : Value) (A T : Nat) (i : Int) (w : World) (h : Mem w v A T cp bs rs) :
    Calls Try.prog 27 #[v, .int .i64 i] w fun e w' => e = .returned (.int .i64 (atM A T 3 i)) ∧ Below w.heap.size w w' := by
  have HA := Lib.hid (h w (Below.refl _ _))
  clear h
  go_enter Try.func27, Try.ntmps27
  go_wp2_with fail
  refine HA.out.mono ?_
  rintro e w1 ⟨o, rfl, hm, hb⟩
  have HT := Lib.hid (at_any o A T 3 i cp bs rs (by decide) w1 hm)
  have HB := Lib.hid hb
  clear hm hb
  go_wp2_with fail
  refine HT.out.mono ?_
  rintro e w2 ⟨rfl, rfl⟩
  go_wp2
  go_ret
  exact ⟨rfl, HB.out⟩
theorem mPhase_any (v cp bs rs : Value) (A T : Nat) (i : Int) (w : World) (h : Mem w v A T cp bs rs) :
    Calls Try.prog 28 #[v, .int .i64 i] w fun e w' => e = .returned (.int .i64 (atM A T 4 i)) ∧ Below w.heap.size w w' := by
  have HA := Lib.hid (h w (Below.refl _ _))
  clear h
  go_enter Try.func28, Try.ntmps28
  go_wp2_with fail
  refine HA.out.mono ?_
  rintro e w1 ⟨o, rfl, hm, hb⟩
  have HT := Lib.hid (at_any o A T 4 i cp bs rs (by decide) w1 hm)
  have HB := Lib.hid hb
  clear hm hb
  go_wp2_with fail
  refine HT.out.mono ?_
  rintro e w2 ⟨rfl, rfl⟩
  go_wp2
  go_ret
  exact ⟨rfl, HB.out⟩
theorem mGate_any (v cp bs rs : Value) (A T : Nat) (w : World) (h : Mem w v A T cp bs rs) :
    Calls Try.prog 16 #[v] w fun e w' => e = .returned (.int .i64 (atM A T 6 0)) ∧ Below w.heap.size w w' := by
  have HA := Lib.hid (h w (Below.refl _ _))
  clear h
  go_enter Try.func16, Try.ntmps16
  go_wp2_with fail
  refine HA.out.mono ?_
  rintro e w1 ⟨o, rfl, hm, hb⟩
  have HT := Lib.hid (at_any o A T 6 0 cp bs rs (by decide) w1 hm)
  have HB := Lib.hid hb
  clear hm hb
  go_wp2_with fail
  refine HT.out.mono ?_
  rintro e w2 ⟨rfl, rfl⟩
  go_wp2
  go_ret
  exact ⟨rfl, HB.out⟩
theorem mArena_any (v cp bs rs : Value) (A T : Nat) (w : World) (h : Mem w v A T cp bs rs) :
    Calls Try.prog 14 #[v] w fun e w' => e = .returned (.int .i64 A) ∧ Below w.heap.size w w' := by
  have HA := Lib.hid (h w (Below.refl _ _))
  clear h
  go_enter Try.func14, Try.ntmps14
  go_wp2_with fail
  refine HA.out.mono ?_
  rintro e w1 ⟨o, rfl, hm, hb⟩
  have c1 := hm.c1
  have c2 := hm.c2
  have HB := Lib.hid hb
  clear hm hb
  go_wp2
  go_ret
  exact ⟨rfl, HB.out⟩
theorem mThreads_any (v cp bs rs : Value) (A T : Nat) (w : World) (h : Mem w v A T cp bs rs) :
    Calls Try.prog 15 #[v] w fun e w' => e = .returned (.int .i64 T) ∧ Below w.heap.size w w' := by
  have HA := Lib.hid (h w (Below.refl _ _))
  clear h
  go_enter Try.func15, Try.ntmps15
  go_wp2_with fail
  refine HA.out.mono ?_
  rintro e w1 ⟨o, rfl, hm, hb⟩
  have c1 := hm.c1
  have c2 := hm.c2
  have HB := Lib.hid hb
  clear hm hb
  go_wp2
  go_ret
  exact ⟨rfl, HB.out⟩
theorem mLen_any (v cp bs rs : Value) (A T n : Nat) (w : World) (h : Mem w v A T cp bs rs)
    (hl : ∀ W, Below w.heap.size w W → Calls Try.prog 37 #[cp] W fun e w' => e = .returned (.int .i64 n) ∧ W = w') :
    Calls Try.prog 13 #[v] w fun e w' => e = .returned (.int .i64 n) ∧ Below w.heap.size w w' := by
  have HA := Lib.hid (h w (Below.refl _ _))
  have HL := Lib.hid hl
  clear h hl
  go_enter Try.func13, Try.ntmps13
  go_wp2_with fail
  refine HA.out.mono ?_
  rintro e w1 ⟨o, rfl, hm, hb⟩
  have c0 := hm.c0
  have HB := Lib.hid hb
  clear hm hb
  go_wp2_with fail
  refine (HL.out _ HB.out).mono ?_
  rintro e w2 ⟨rfl, rfl⟩
  go_wp2
  go_ret
  exact ⟨rfl, HB.out⟩
/-- A thread's hazard. -/
def hazM (A T : Nat) (t k : Int) : Int := if (0 ≤ t ∧ t < (T : Int)) ∧ 0 ≤ k ∧ k < 2 then (begM A T 5 : Int) + (t * 2 + k) else -1
theorem haz_at {A T : Nat} {t k : Int} (h : (0 ≤ t ∧ t < (T : Int)) ∧ 0 ≤ k ∧ k < 2) : atM A T 5 (t * 2 + k) = hazM A T t k := by
  unfold hazM atM
  rw [if_pos h, if_pos]
  have : manyM A T 5 = T * 2 := by unfold manyM; simp
  rw [this]; omega
set_option maxHeartbeats 1000000 in
theorem mHazard_any (v cp bs rs : Value) (A T : Nat) (t k : Int) (hT : T ≤ 16) (w : World) (h : Mem w v A T cp bs rs) :
    Calls Try.prog 29 #[v, .int .i64 t, .int .i64 k] w fun e w' => e = .returned (.int .i64 (hazM A T t k)) ∧ Below w.heap.size w w' := by
  have HM := Lib.hid h
  have hz := @haz_at A T t k
  have hn : ¬ ((0 ≤ t ∧ t < (T : Int)) ∧ 0 ≤ k ∧ k < 2) → hazM A T t k = -1 := fun hx => by unfold hazM; rw [if_neg hx]
  clear h
  by_cases ht : 0 ≤ t ∧ t < (T : Int)
  · have HTB : Hid (thrB T t = true) := Lib.hid (by unfold thrB; rw [decide_eq_true_iff]; exact ht)
    by_cases k0 : k < 0
    · have HR := Lib.hid (hn (by omega))
      clear hz hn
      go_enter Try.func29, Try.ntmps29
      go_wp2_with fail
      refine (HM.out w (Below.refl _ _)).mono ?_
      rintro e w1 ⟨o, rfl, hm, hb⟩
      have HI := isThread_any o A T t cp bs rs w1 hm
      rw [HTB.out] at HI
      have HII := Lib.hid HI
      have HB := Lib.hid hb
      clear hm hb HI
      go_wp2_with fail
      refine HII.out.mono ?_
      rintro e w2 ⟨rfl, rfl⟩
      go_wp2
      go_ret
      exact ⟨by rw [HR.out]; rfl, HB.out⟩
    · by_cases k1 : 2 ≤ k
      · have HR := Lib.hid (hn (by omega))
        clear hz hn
        go_enter Try.func29, Try.ntmps29
        go_wp2_with fail
        refine (HM.out w (Below.refl _ _)).mono ?_
        rintro e w1 ⟨o, rfl, hm, hb⟩
        have HI := isThread_any o A T t cp bs rs w1 hm
        rw [HTB.out] at HI
        have HII := Lib.hid HI
        have HB := Lib.hid hb
        clear hm hb HI
        go_wp2_with fail
        refine HII.out.mono ?_
        rintro e w2 ⟨rfl, rfl⟩
        go_wp2
        go_ret
        exact ⟨by rw [HR.out]; rfl, HB.out⟩
      · have HR := Lib.hid (hz ⟨ht, by omega, by omega⟩)
        obtain ⟨t0, t1⟩ := ht
        have t2 : t ≤ 16 := by omega
        clear hz hn
        go_enter Try.func29, Try.ntmps29
        go_wp2_with fail
        refine (HM.out w (Below.refl _ _)).mono ?_
        rintro e w1 ⟨o, rfl, hm, hb⟩
        have HI := isThread_any o A T t cp bs rs w1 hm
        rw [HTB.out] at HI
        have HII := Lib.hid HI
        have HB := Lib.hid hb
        clear hm hb HI
        go_wp2_with fail
        refine HII.out.mono ?_
        rintro e w2 ⟨rfl, rfl⟩
        go_wp2_with fail
        refine (HM.out _ HB.out).mono ?_
        rintro e w2 ⟨o2, rfl, hm, hb⟩
        have HT2 := Lib.hid (at_any o2 A T 5 (t * 2 + k) cp bs rs (by decide) w2 hm)
        have HB2 := Lib.hid (HB.out.trans (hb.mono HB.out.size))
        clear hm hb
        go_wp2_with fail
        refine HT2.out.mono ?_
        rintro e w3 ⟨rfl, rfl⟩
        go_wp2
        go_ret
        exact ⟨by rw [← HR.out]; rfl, HB2.out⟩
  · have HTB : Hid (thrB T t = false) := Lib.hid (by unfold thrB; rw [decide_eq_false_iff_not]; exact ht)
    have HR := Lib.hid (hn (by omega))
    clear hz hn
    go_enter Try.func29, Try.ntmps29
    go_wp2_with fail
    refine (HM.out w (Below.refl _ _)).mono ?_
    rintro e w1 ⟨o, rfl, hm, hb⟩
    have HI := isThread_any o A T t cp bs rs w1 hm
    rw [HTB.out] at HI
    have HII := Lib.hid HI
    have HB := Lib.hid hb
    clear hm hb HI
    go_wp2_with fail
    refine HII.out.mono ?_
    rintro e w2 ⟨rfl, rfl⟩
    go_wp2
    go_ret
    exact ⟨by rw [HR.out]; rfl, HB.out⟩
/-- Load, of cells that tell so. -/
theorem mLoad_any (v cp bs rs : Value) (A T : Nat) (i : Int) (x y : Nat) (b : Bool) (w : World) (h : Mem w v A T cp bs rs)
    (hl : ∀ W, Below w.heap.size w W → Calls Try.prog 36 #[cp, .int .i64 i] W fun e w' => e = .returned (.tuple #[.int .u64 x, .int .u64 y, .bool b]) ∧ Below W.heap.size W w') :
    Calls Try.prog 12 #[v, .int .i64 i] w fun e w' => e = .returned (.tuple #[.int .u64 x, .int .u64 y, .bool b]) ∧ Below w.heap.size w w' := by
  have HA := Lib.hid (h w (Below.refl _ _))
  have HL := Lib.hid hl
  clear h hl
  go_enter Try.func12, Try.ntmps12
  go_wp2_with fail
  refine HA.out.mono ?_
  rintro e w1 ⟨o, rfl, hm, hb⟩
  have c0 := hm.c0
  have HB := Lib.hid hb
  clear hm hb
  go_wp2_with fail
  refine (HL.out _ HB.out).mono ?_
  rintro e w2 ⟨rfl, hb2⟩
  have HB2 := Lib.hid (HB.out.trans (hb2.mono HB.out.size))
  clear hb2
  go_wp2
  go_ret3
  exact ⟨rfl, HB2.out⟩
end Go.Proofs.Ytkdjcikilabehaa
