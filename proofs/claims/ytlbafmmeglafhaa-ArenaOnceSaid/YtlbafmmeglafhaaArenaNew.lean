/- New of an arena. No condition. -/
import Derived.Test.YtlbafmmeglafhaaArenaFree
import Derived.Test.YtlbafmmeglafhaaCopyRow
namespace Go.Proofs.Ytlbafmmeglafhaa
open Go.RowKit

theorem new_out (n : Int) (v : Nat) (w : World) (h : n < 1 ∨ 8192 < n ∨ 4294967295 < v) :
    Calls Try.prog 9 #[.int .i64 n, .int .u64 v] w fun e w' => e = .returned (.pointer none) ∧ w = w' := by
  have hc : n < 1 ∨ (¬ n < 1 ∧ 8192 < n) ∨ (¬ n < 1 ∧ ¬ 8192 < n ∧ (4294967295 : Int) < v) := by omega
  clear h
  rcases hc with h | ⟨h, h1⟩ | ⟨h, h1, h2⟩
  all_goals
    go_enter Try.func9, Try.ntmps9
    go_wp2
    go_ret
    exact ⟨rfl, rfl⟩

theorem infoUse : (Try.prog.info? 73).map (fun i => (i.zero, i.size, i.bytes)) = some (some (.agg #[.int .i64 0, .int .u64 0]), 2, 16) := by kernel_rfl
theorem infoInt : (Try.prog.info? 3).map (fun i => (i.zero, i.size, i.bytes)) = some (some (.int .i64 0), 1, 8) := by kernel_rfl
theorem made_use (n : Nat) : madeCells (Value.agg #[.int .i64 0, .int .u64 0]).cells (n * 2) = (uc (List.replicate n (0, 0, 0))).toArray := by
  have e : (Value.agg #[Value.int .i64 0, .int .u64 0]).cells = #[.int .i64 0, .int .u64 0] := rfl
  rw [e]
  apply Array.ext
  · simp [madeCells, uc_len]
  · intro i h1 h2
    have hu := uc_get (List.replicate n (0, 0, 0)) (i / 2) (by simp [madeCells] at h1; simp; omega)
    have : i % 2 = 0 ∨ i % 2 = 1 := by omega
    have hi : i < (uc (List.replicate n ((0, 0, 0) : Bk))).length := by simpa using h2
    rcases this with h | h
    · have h3 := hu.1
      rw [show i / 2 * 2 = i by omega, List.getElem?_eq_getElem hi] at h3
      injection h3 with h3
      simp [madeCells, h, h3]
    · have h3 := hu.2
      rw [show i / 2 * 2 + 1 = i by omega, List.getElem?_eq_getElem hi] at h3
      injection h3 with h3
      simp [madeCells, h, h3]
theorem made_int (n : Nat) : madeCells (Value.int .i64 0).cells (n * 1) = (hc (List.replicate n (0, 0, 0))).toArray := by
  have e : (Value.int .i64 0).cells = #[Value.int .i64 0] := rfl
  rw [e]
  apply Array.ext
  · simp [madeCells, hc_len]
  · intro i h1 h2
    simp [madeCells, hc, Nat.mod_one]

/-- The blocks behind some rounds of New. -/
def roundL (n v i : Nat) : List Bk := List.replicate i (leftS v, v, 0) ++ List.replicate (n - i) (0, 0, 0)
theorem round_len (n v i : Nat) (h : i ≤ n) : (roundL n v i).length = n := by unfold roundL; simp; omega
theorem round_set (n v i : Nat) (h : i < n) : (roundL n v i).set i (leftS v, v, 0) = roundL n v (i + 1) := by
  unfold roundL
  rw [List.set_append_right _ _ (by simp)]
  simp only [List.length_replicate, Nat.sub_self]
  rw [show n - i = (n - (i + 1)) + 1 by omega, List.replicate_succ, List.set_cons_zero, List.replicate_succ']
  simp
theorem round_xx (n v i j : Nat) : xx (roundL n v i) j = 0 := by
  unfold xx roundL
  rw [List.getD_eq_getElem?_getD]
  rw [List.getElem?_append]
  split <;> simp [List.getElem?_replicate] <;> split <;> rfl
theorem round_zero (n v : Nat) : roundL n v 0 = List.replicate n (0, 0, 0) := by unfold roundL; simp
theorem round_all (n v : Nat) : roundL n v n = List.replicate n (leftS v, v, 0) := by unfold roundL; simp
theorem round_fit (n v i : Nat) (hv : v ≤ 4294967295) : ∀ p ∈ roundL n v i, Fits p := by
  intro p hp
  unfold roundL at hp
  rcases List.mem_append.1 hp with hp | hp
  · obtain ⟨_, rfl⟩ := List.mem_replicate.1 hp
    exact left_fits v hv
  · obtain ⟨_, rfl⟩ := List.mem_replicate.1 hp
    exact ⟨by simp, by simp, by simp, by simp, by simp⟩

/-- An arena in memory that was not there. -/
def ANew (w w' : World) (e : Ending) (l : List Bk) : Prop := ∃ b g h, e = .returned (.pointer (some ⟨b, 0, none⟩)) ∧ ArenaAt w' b g h l ∧ (w.heap.size ≤ b ∧ w.heap.size ≤ g ∧ w.heap.size ≤ h) ∧ Below w.heap.size w w'

/-- An arena some of whose blocks are as they should be. -/
def ARound (w wr : World) (b : Nat) (l : List Bk) : Prop := ∃ g h, ArenaAt wr b g h l ∧ w.heap.size ≤ g ∧ w.heap.size ≤ h ∧ Below w.heap.size w wr
theorem three_new {w W : World} (n v : Nat) (hn : 1 ≤ n ∧ n ≤ 8192) (hv : v ≤ 4294967295) (g h : Nat) (hg : w.heap.size ≤ g ∧ w.heap.size ≤ h) (hb : Below w.heap.size w W) (h1 : W.heap[g]? = some (.cells (uc (List.replicate n (0, 0, 0))).toArray 73 (0, 0)))
    (h2 : W.heap[h]? = some (.cells (hc (List.replicate n (0, 0, 0))).toArray 3 (0, 0))) : ARound w (W.alloc (.cells #[.slice (some ⟨g, 0, none⟩) n n, .slice (some ⟨h, 0, none⟩) n n] 58)).drew W.heap.size (roundL n v 0) := by
  rw [round_zero]
  have hB := (one_alloc W (.cells #[.slice (some ⟨g, 0, none⟩) n n, .slice (some ⟨h, 0, none⟩) n n] 58)).2
  refine ⟨g, h, ArenaAt.drew (w := (W.alloc (.cells #[.slice (some ⟨g, 0, none⟩) n n, .slice (some ⟨h, 0, none⟩) n n] 58))) ⟨?_, Blk.below (w := W) h1 hB, Blk.below (w := W) h2 hB, by simpa using hn, ?_⟩ ⟨1, rfl⟩, hg.1, hg.2, (hb.alloc hb.size _).drew⟩
  · rw [List.length_replicate]; exact Blk.new _ _ _
  · rw [← round_zero n v]; exact round_fit n v 0 hv
theorem two_blocks (w : World) (a c : Obj) : ((w.alloc a).alloc c).heap[w.heap.size]? = some a ∧ ((w.alloc a).alloc c).heap[w.heap.size + 1]? = some c ∧ Below w.heap.size w ((w.alloc a).alloc c) ∧ ((w.alloc a).alloc c).heap.size = w.heap.size + 1 + 1 := by
  have e : (w.alloc a).heap.size = w.heap.size + 1 := World.size_alloc _ _
  refine ⟨?_, ?_, (one_alloc w a).2.alloc (by omega) _, ?_⟩
  · rw [Below.heap_alloc _ _ _ (by omega)]; exact heap_alloc_new w a
  · rw [← e]; exact heap_alloc_new _ c
  · rw [World.size_alloc, e]
theorem new_start (w : World) (n v : Nat) (hn : 1 ≤ n ∧ n ≤ 8192) (hv : v ≤ 4294967295) :
    ARound w (((w.alloc (.cells (uc (List.replicate n (0, 0, 0))).toArray 73)).alloc (.cells (hc (List.replicate n (0, 0, 0))).toArray 3)).alloc (.cells #[.slice (some ⟨w.heap.size, 0, none⟩) n n, .slice (some ⟨w.heap.size + 1, 0, none⟩) n n] 58)).drew (w.heap.size + 1 + 1) (roundL n v 0) ∧
    ARound w (((w.alloc (.cells (hc (List.replicate n (0, 0, 0))).toArray 3)).alloc (.cells (uc (List.replicate n (0, 0, 0))).toArray 73)).alloc (.cells #[.slice (some ⟨w.heap.size + 1, 0, none⟩) n n, .slice (some ⟨w.heap.size, 0, none⟩) n n] 58)).drew (w.heap.size + 1 + 1) (roundL n v 0) := by
  constructor
  · obtain ⟨h1, h2, h3, h4⟩ := two_blocks w (.cells (uc (List.replicate n (0, 0, 0))).toArray 73) (.cells (hc (List.replicate n (0, 0, 0))).toArray 3)
    rw [← h4]
    exact three_new n v hn hv _ _ ⟨Nat.le_refl _, by omega⟩ h3 h1 h2
  · obtain ⟨h1, h2, h3, h4⟩ := two_blocks w (.cells (hc (List.replicate n (0, 0, 0))).toArray 3) (.cells (uc (List.replicate n (0, 0, 0))).toArray 73)
    rw [← h4]
    exact three_new n v hn hv _ _ ⟨by omega, Nat.le_refl _⟩ h3 h2 h1

set_option maxHeartbeats 8000000 in
set_option maxRecDepth 100000 in
theorem new_in (n v : Nat) (hn : 1 ≤ n ∧ n ≤ 8192) (hv : v ≤ 4294967295) (w : World) :
    Calls Try.prog 9 #[.int .i64 n, .int .u64 v] w fun e w' => ANew w w' e (List.replicate n (leftS v, v, 0)) := by
  obtain ⟨i0, hi, hz0, hz1, hz2⟩ := info_parts infoUse
  obtain ⟨i1, hi1, hy0, hy1, hy2⟩ := info_parts infoInt
  have hmk := fun W => run_make_rowN (P := Try.prog) 55 73 i0 _ Try.underlying55 hi hz0 .i64 .i64 n n (Nat.le_refl _) (by rw [hz2]; omega) (by omega) W
  have hmk1 := fun W => run_make_rowN (P := Try.prog) 56 3 i1 _ Try.underlying56 hi1 hy0 .i64 .i64 n n (Nat.le_refl _) (by rw [hy2]; omega) (by omega) W
  rw [hz1, made_use] at hmk
  rw [hy1, made_int] at hmk1
  have g1 : ¬ (n : Int) < 1 := by omega
  have g2 : ¬ (8192 : Int) < n := by omega
  have g3 : ¬ (4294967295 : Int) < v := by omega
  clear hi hz0 hz1 hz2 hi1 hy0 hy1 hy2
  go_enter Try.func9, Try.ntmps9
  have HST := Lib.hid (new_start w n v hn hv)
  have HLF := Lib.hid (fun V => left_any v V)
  have HV := Lib.hid hv
  have hbig : w.heap.size ≤ w.heap.size + 1 + 1 := by omega
  clear hv
  go_wp2
  go_region
  all_goals
    go_wp2
    clear hmk hmk1
    go_loopw [28] (fun s wr => ∃ i : Nat, s = .int .i64 i ∧ i ≤ n ∧ Hid (ARound w wr (w.heap.size + 1 + 1) (roundL n v i))) (fun s _ => n - (intOf s).toNat)
    case atStart => exact ⟨0, rfl, Nat.zero_le _, Lib.hid (by first | exact HST.out.1 | exact HST.out.2)⟩
    case round =>
      obtain ⟨i, rfl, hi, hR⟩ := hrel
      by_cases hlt : i < n
      · obtain ⟨g, h, A, hg, hh, hb⟩ := hR.out
        have hL := round_len n v i hi
        have HX := Lib.hid (round_xx n v i i)
        have HNX := Lib.hid (round_set n v i hlt)
        have hlt' : (i : Int) < n := by omega
        have hC : ∀ V, Below wr.heap.size wr V → V.cell? ⟨w.heap.size + 1 + 1, 0, none⟩ = some (.slice (some ⟨g, 0, none⟩) n n) := fun V hV => by
          have d := (A.below hV).c0
          rw [hL] at d
          exact d
        have HC := Lib.hid hC
        have HF : Hid (∀ V, Below wr.heap.size wr V → V.cell? ⟨g, i * 2, none⟩ = some (.int .i64 (st (roundL n v i) i : Nat)) ∧ V.cell? ⟨g, i * 2 + 1, none⟩ = some (.int .u64 (gn (roundL n v i) i : Nat)) ∧ V.frozen? ⟨g, i * 2, none⟩ = false ∧ V.frozen? ⟨g, i * 2 + 1, none⟩ = false) := Lib.hid (fun V hV =>
          ⟨(A.below hV).state i (by rw [hL]; exact hlt), (A.below hV).gen i (by rw [hL]; exact hlt), (A.below hV).row.frozen _, (A.below hV).row.frozen _⟩)
        have HU : Hid (∀ V, Below wr.heap.size wr V → AWrote V ((V.setCell ⟨g, i * 2, none⟩ (.int .i64 (leftS v : Nat))).setCell ⟨g, i * 2 + 1, none⟩ (.int .u64 v)) (w.heap.size + 1 + 1) g h (roundL n v (i + 1))) := Lib.hid (fun V hV => by
          have h1 := AWrote.use (A.below hV) i (leftS v) v (by rw [hL]; exact hlt) (by rw [HX.out]; exact left_fits v HV.out)
          rw [HX.out, HNX.out] at h1
          exact h1)
        have HEND : Hid (∀ V, Below wr.heap.size wr V → ARound w ((V.setCell ⟨g, i * 2, none⟩ (.int .i64 (leftS v : Nat))).setCell ⟨g, i * 2 + 1, none⟩ (.int .u64 v)) (w.heap.size + 1 + 1) (roundL n v (i + 1))) := Lib.hid (fun V hV =>
          ⟨g, h, (HU.out V hV).arena, hg, hh, (hb.trans (hV.mono hb.size)).trans ((HU.out V hV).keep.below (hb.trans (hV.mono hb.size)).size (fun k hk => by omega))⟩)
        have HKEEP : Hid (∀ V, Below wr.heap.size wr V → ((V.setCell ⟨g, i * 2, none⟩ (.int .i64 (leftS v : Nat))).setCell ⟨g, i * 2 + 1, none⟩ (.int .u64 v)).cell? ⟨w.heap.size + 1 + 1, 0, none⟩ = some (.slice (some ⟨g, 0, none⟩) n n)) := Lib.hid (fun V hV => by
          have d := (HU.out V hV).arena.c0
          rw [round_len n v (i + 1) (by omega)] at d
          exact d)
        have hS0 := HC.out wr.drew (Below.refl _ _).drew
        clear A hb hg hh hC hR
        generalize leftS v = ls at *
        generalize st (roundL n v i) i = s0 at *
        generalize gn (roundL n v i) i = v0 at *
        go_wp2
        go_region_held_law (fun V => V.cell? ⟨w.heap.size + 1 + 1, 0, none⟩ = some (.slice (some ⟨g, 0, none⟩) n n))
          (first | (with_reducible exact hS0) | exact HC.out _ hA1 | exact HKEEP.out _ hA1 | assumption)
          (first
            | (go_at_call 38; (with_reducible refine (HLF.out _).mono ?_); rintro e wa ⟨rfl, hb1⟩; have hA1 := (Below.refl wr.heap.size wr).drew.trans (hb1.mono (Nat.le_refl _)); have g1 := (HF.out _ hA1).1; have g4 := (HF.out _ hA1).2.1; have g2 := (HF.out _ hA1).2.2.1; have g3 := (HF.out _ hA1).2.2.2))
        all_goals
          go_wp2
          go_roundw
          case rel => exact ⟨i + 1, by go_num, by omega, Lib.hid (HEND.out _ hA1)⟩
          case measure => simp [intOf]; omega
      · obtain rfl : i = n := by omega
        obtain ⟨g, h, A, hg, hh, hb⟩ := hR.out
        rw [round_all] at A
        have HA := Lib.hid A
        have HB := Lib.hid hb
        clear A hb hR
        go_wp2
        go_ret
        exact ⟨_, g, h, rfl, HA.out, ⟨hbig, hg, hh⟩, HB.out⟩
end Go.Proofs.Ytlbafmmeglafhaa
