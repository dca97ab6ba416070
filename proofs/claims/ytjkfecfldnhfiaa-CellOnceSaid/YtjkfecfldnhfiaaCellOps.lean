/- (*cell.Cells).Cas, Store; cell.New, Clone. Condition: words and versions are words. -/
import Derived.Test.YtjkfecfldnhfiaaCellMem
import Derived.Test.YtjkfecfldnhfiaaCopyRow
import Derived.Laws.MakeOwn
import Derived.Laws.Entries
import Derived.RegionTactic
namespace Go.Proofs.Ytjkfecfldnhfiaa
open Go.RowKit

/-- What a write leaves: the row's block alone has turned. -/
structure Wrote (w w' : World) (b g : Nat) (l : List (Nat × Nat)) : Prop where
  cells : CellsAt w' b g l
  keep : Keep (fun k => k = g) w w'

def ver1 (v : Nat) : Nat := (v + 1) % 18446744073709551616

theorem ver1_lt (v : Nat) : ver1 v < 18446744073709551616 := Nat.mod_lt _ (by omega)

/-- Cas where there is no such cell, or no cells. -/
theorem cas_out (v : Value) (n : Nat) (i : Int) (ver word : Nat) (w : World) (hl : Calls Try.prog 23 #[v] w fun e w' => e = .returned (.int .i64 n) ∧ w = w') (hi : ¬ (0 ≤ i ∧ i < n)) :
    Calls Try.prog 27 #[v, .int .i64 i, .int .u64 ver, .int .u64 word] w fun e w' => e = .returned (.bool false) ∧ w = w' := by
  have hh := has_len v n i w hl
  rw [bool_not (inB_iff i n) hi] at hh
  have HH := Lib.hid hh
  clear hh hl hi
  go_enter Try.func27, Try.ntmps27
  go_wp2_with fail
  refine HH.out.mono ?_
  rintro e w1 ⟨rfl, rfl⟩
  go_wp2
  go_ret
  exact ⟨rfl, rfl⟩

set_option maxHeartbeats 1000000 in
/-- Cas where it has another version. -/
theorem cas_no (b g : Nat) (l : List (Nat × Nat)) (j ver word : Nat) (w : World) (h : CellsAt w b g l) (hj : j < l.length) (hv : vr l j ≠ ver) :
    Calls Try.prog 27 #[.pointer (some ⟨b, 0, none⟩), .int .i64 j, .int .u64 ver, .int .u64 word] w fun e w' => e = .returned (.bool false) ∧ w = w' := by
  have hh := has_len _ l.length j w (cLen_any b g l w h)
  rw [(inB_iff j l.length).2 ⟨by omega, by omega⟩] at hh
  have HH := Lib.hid hh
  have c0 := h.c0
  have c2 := h.ver j hj
  have hl := h.len
  clear hh h
  have hd : ((vr l j : Int) != (ver : Int)) = true := by rw [bne_iff_ne]; omega
  generalize vr l j = y at *
  have hj' : (j : Int) < l.length := by omega
  generalize l.length = n at *
  clear hv
  go_enter Try.func27, Try.ntmps27
  go_wp2_with fail
  refine HH.out.mono ?_
  rintro e w1 ⟨rfl, rfl⟩
  go_wp2
  go_ret
  exact ⟨rfl, rfl⟩

theorem keep_two (w : World) (g i j : Nat) (u v : Value) : Keep (fun k => k = g) w ((w.setCell ⟨g, i, none⟩ u).setCell ⟨g, j, none⟩ v) :=
  ((Keep.refl (fun k => k = g) w).set (p := ⟨g, i, none⟩) (fun _ => rfl) u).set (p := ⟨g, j, none⟩) (fun _ => rfl) v

set_option maxHeartbeats 1000000 in
theorem cas_yes (b g : Nat) (l : List (Nat × Nat)) (j word : Nat) (hw : word < 18446744073709551616) (w : World) (h : CellsAt w b g l) (hj : j < l.length) :
    Calls Try.prog 27 #[.pointer (some ⟨b, 0, none⟩), .int .i64 j, .int .u64 (vr l j : Nat), .int .u64 word] w fun e w' => e = .returned (.bool true) ∧ Wrote w w' b g (l.set j (word, ver1 (vr l j))) := by
  have hh := has_len _ l.length j w (cLen_any b g l w h)
  rw [(inB_iff j l.length).2 ⟨by omega, by omega⟩] at hh
  have HH := Lib.hid hh
  have c0 := h.c0
  have c1 := h.word j hj
  have c2 := h.ver j hj
  have f1 := h.row.frozen (j * 2)
  have f2 := h.row.frozen (j * 2 + 1)
  have hl := h.len
  have HS := Lib.hid (h.set j word (ver1 (vr l j)) hw (ver1_lt _))
  clear hh h
  have hw1 : IntKind.u64.wrap ((vr l j : Int) + 1) = (ver1 (vr l j) : Nat) := by
    unfold ver1
    rw [IntKind.wrap_u64]; omega
  have hd : ((vr l j : Int) != ((vr l j : Nat) : Int)) = false := by simp
  generalize vr l j = y at *
  have hj' : (j : Int) < l.length := by omega
  generalize l.length = n at *
  generalize ver1 y = y1 at *
  generalize wd l j = x at *
  go_enter Try.func27, Try.ntmps27
  go_wp2_with fail
  refine HH.out.mono ?_
  rintro e w1 ⟨rfl, rfl⟩
  go_wp2
  go_ret
  exact ⟨rfl, HS.out, keep_two w g _ _ _ _⟩

/-- Store where there is no such cell, or no cells. -/
theorem store_out (v : Value) (n : Nat) (i : Int) (word : Nat) (w : World) (hl : Calls Try.prog 23 #[v] w fun e w' => e = .returned (.int .i64 n) ∧ w = w') (hi : ¬ (0 ≤ i ∧ i < n)) :
    Calls Try.prog 24 #[v, .int .i64 i, .int .u64 word] w fun e w' => e = .returned (.bool false) ∧ w = w' := by
  have HL := Lib.hid (load_out v n i w hl hi)
  have HC := Lib.hid (cas_out v n i 0 word w hl hi)
  clear hl hi
  go_enter Try.func24, Try.ntmps24
  go_wp2_with fail
  refine HL.out.mono ?_
  rintro e w1 ⟨rfl, rfl⟩
  go_wp2_with fail
  refine HC.out.mono ?_
  rintro e w1 ⟨rfl, rfl⟩
  go_wp2
  go_ret
  exact ⟨rfl, rfl⟩

theorem store_in (b g : Nat) (l : List (Nat × Nat)) (j word : Nat) (hw : word < 18446744073709551616) (w : World) (h : CellsAt w b g l) (hj : j < l.length) :
    Calls Try.prog 24 #[.pointer (some ⟨b, 0, none⟩), .int .i64 j, .int .u64 word] w fun e w' => e = .returned (.bool true) ∧ Wrote w w' b g (l.set j (word, ver1 (vr l j))) := by
  have HL := Lib.hid (load_in b g l j w h hj)
  have HC := Lib.hid (fun W (hd : Drew w W) => cas_yes b g l j word hw W (h.drew hd) hj)
  clear h hj
  generalize vr l j = y at *
  generalize wd l j = x at *
  go_enter Try.func24, Try.ntmps24
  go_wp2_with fail
  refine HL.out.mono ?_
  rintro e w1 ⟨rfl, hd⟩
  have HD := Lib.hid hd
  clear hd
  go_wp2_with fail
  refine (HC.out _ HD.out).mono ?_
  rintro e w2 ⟨rfl, hw2⟩
  have HW := Lib.hid hw2
  clear hw2
  go_wp2
  go_ret
  exact ⟨rfl, HW.out.cells, (Keep.of_below (HD.out.below _) _).trans HW.out.keep (fun _ _ h => h)⟩

theorem infoArr : (Try.prog.info? 66).map (fun i => (i.zero, i.size, i.bytes)) = some (some (.agg #[.int .u64 0, .int .u64 0]), 2, 16) := by kernel_rfl
theorem made_arr (n : Nat) : madeCells (Value.agg #[.int .u64 0, .int .u64 0]).cells (n * 2) = (cc (List.replicate n (0, 0))).toArray := by
  have e : (Value.agg #[Value.int .u64 0, .int .u64 0]).cells = #[.int .u64 0, .int .u64 0] := rfl
  rw [cc_rep, e]
  apply Array.ext
  · simp [madeCells]
  · intro i h1 h2
    have : i % 2 = 0 ∨ i % 2 = 1 := by omega
    rcases this with h | h <;> simp [madeCells, h]

theorem new_out (n : Int) (w : World) (h : n < 0 ∨ 65536 < n) :
    Calls Try.prog 22 #[.int .i64 n] w fun e w' => e = .returned (.pointer none) ∧ w = w' := by
  rcases h with h | h
  · go_enter Try.func22, Try.ntmps22
    go_wp2
    go_ret
    exact ⟨rfl, rfl⟩
  · have h0 : ¬ n < 0 := by omega
    go_enter Try.func22, Try.ntmps22
    go_wp2
    go_ret
    exact ⟨rfl, rfl⟩

/-- Cells in memory that was not there. -/
def NewAt (w w' : World) (e : Ending) (l : List (Nat × Nat)) : Prop := ∃ b g, e = .returned (.pointer (some ⟨b, 0, none⟩)) ∧ CellsAt w' b g l ∧ w.heap.size ≤ b ∧ w.heap.size ≤ g ∧ Below w.heap.size w w'

theorem two_new (w : World) (n : Nat) (hn : n ≤ 65536) : CellsAt ((w.alloc (.cells (cc (List.replicate n (0, 0))).toArray 66)).alloc (.cells #[.slice (some ⟨w.heap.size, 0, none⟩) n n] 64)) (w.heap.size + 1) w.heap.size (List.replicate n (0, 0)) := by
  have h1 := Blk.new w 66 (cc (List.replicate n (0, 0))).toArray
  have hs := World.size_alloc w (.cells (cc (List.replicate n (0, 0))).toArray 66)
  have h2 := Blk.new (w.alloc (.cells (cc (List.replicate n (0, 0))).toArray 66)) 64 #[.slice (some ⟨w.heap.size, 0, none⟩) n n]
  rw [hs] at h2
  refine ⟨by rw [List.length_replicate]; exact h2, h1.below (one_alloc _ _).2, by simpa using hn, fun p hp => ?_⟩
  obtain ⟨_, rfl⟩ := List.mem_replicate.1 hp
  exact ⟨by decide, by decide⟩

theorem new_in (n : Nat) (w : World) (hn : n ≤ 65536) :
    Calls Try.prog 22 #[.int .i64 n] w fun e w' => NewAt w w' e (List.replicate n (0, 0)) := by
  obtain ⟨i0, hi, hz0, hz1, hz2⟩ := info_parts infoArr
  have hmk := fun W => run_make_rowN (P := Try.prog) 62 66 i0 _ Try.underlying62 hi hz0 .i64 .i64 n n (Nat.le_refl _) (by rw [hz2]; omega) (by omega) W
  rw [hz1, made_arr] at hmk
  have HN := Lib.hid (two_new w n hn)
  have g1 : ¬ (n : Int) < 0 := by omega
  have g2 : ¬ (65536 : Int) < n := by omega
  clear hi hz0 hz1 hz2
  generalize (cc (List.replicate n (0, 0))).toArray = cs at *
  generalize List.replicate n (0, 0) = l at *
  go_enter Try.func22, Try.ntmps22
  go_wp2
  go_ret
  exact ⟨_, _, rfl, HN.out, by omega, by omega, ((Below.refl _ _).alloc (Nat.le_refl _) _).alloc (by simp) _⟩

theorem clone_nil (w : World) :
    Calls Try.prog 25 #[.pointer none] w fun e w' => e = .returned (.pointer none) ∧ w = w' := by
  go_enter Try.func25, Try.ntmps25
  go_wp2
  go_ret
  exact ⟨rfl, rfl⟩

theorem cc_one (l : List (Nat × Nat)) : ∀ v ∈ cc l, v.oneCell' = true := by
  intro v hv
  unfold cc at hv
  obtain ⟨p, _, hp⟩ := List.mem_flatMap.1 hv
  simp at hp
  rcases hp with rfl | rfl <;> rfl

/-- What a copy leaves. -/
theorem cells_copied {w w1 : World} {b g n : Nat} {l : List (Nat × Nat)} (h : CellsAt w b g (List.replicate n (0, 0))) (hn : n = l.length) (hfit : ∀ p ∈ l, p.1 < 18446744073709551616 ∧ p.2 < 18446744073709551616) (h1 : w1.heap[g]? = some (.cells (cc l).toArray 66 (0, 0))) (hk : Keep (fun k => k = g) w w1) : CellsAt w1 b g l := by
  have hb := h.blk
  have hl := h.len
  rw [List.length_replicate] at hb hl
  subst hn
  exact ⟨hb.keep hk h.ne, h1, hl, hfit⟩

theorem row_src {w : World} {b g : Nat} {l : List (Nat × Nat)} (h : CellsAt w b g l) : ∀ j v, (cc l)[j]? = some v → w.cell? ((⟨g, 0, none⟩ : Addr).add j) = some v := by
  intro j v hj
  have hadd : (⟨g, 0, none⟩ : Addr).add j = ⟨g, j, none⟩ := by
    by_cases e : j = 0
    · subst e; simp [Addr.add]
    · simp [Addr.add, e]
  rw [hadd, h.row.cell]
  simpa using hj

set_option maxHeartbeats 2000000 in
theorem clone_any (b g : Nat) (l : List (Nat × Nat)) (w : World) (h : CellsAt w b g l) :
    Calls Try.prog 25 #[.pointer (some ⟨b, 0, none⟩)] w fun e w' => NewAt w w' e l := by
  have HL := Lib.hid (cLen_any b g l w h)
  have HN := Lib.hid (new_in l.length w h.len)
  have H := Lib.hid h
  have hl := h.len
  obtain ⟨i0, hi, hz0, hz1, hz2⟩ := info_parts infoArr
  have HI := Lib.hid (And.intro hi hz1)
  clear h hi hz0 hz1 hz2
  go_enter Try.func25, Try.ntmps25
  go_wp2_with fail
  refine HL.out.mono ?_
  rintro e w1 ⟨rfl, rfl⟩
  go_wp2_with fail
  refine HN.out.mono ?_
  rintro e w1 ⟨b1, g1, rfl, hc, hb1, hg1, hbl⟩
  have H1 := Lib.hid (H.out.below hbl)
  have HC := Lib.hid hc
  have HB := Lib.hid hbl
  have HG := Lib.hid (And.intro hb1 hg1)
  have c0 := H1.out.c0
  have c1 := HC.out.c0
  rw [List.length_replicate] at c1
  clear hc hbl hb1 hg1
  go_wp2
  have HSRC : Hid (0 < (cc l).length → ∃ a, some (⟨g, 0, none⟩ : Addr) = some a ∧ ∀ j v, (cc l)[j]? = some v → w1.drew.cell? (a.add j) = some v) := Lib.hid (fun _ => ⟨_, rfl, row_src (H1.out.drew ⟨1, rfl⟩)⟩)
  have HFIT : Hid ((cc (List.replicate l.length (0, 0))).toArray.size = (cc l).length) := Lib.hid (by simp [cc_len])
  have HROW : Hid (w1.drew.heap[g1]? = some (.cells (cc (List.replicate l.length (0, 0))).toArray 66 (0, 0))) := Lib.hid (HC.out.drew (w' := w1.drew) ⟨1, rfl⟩).row
  go_region_law (refine step_copy_all rfl (.tmp 12) (.tmp 16) 62 62 rfl 66 i0 Try.underlying62 HI.out.1 2 HI.out.2 g1 l.length l.length l.length (some ⟨g, 0, none⟩) rfl rfl (cc (List.replicate l.length (0, 0))).toArray 66 HROW.out (cc l) (cc_len l) HSRC.out HFIT.out (cc_one l) ?_; intro w4 hg4 hk4)
  all_goals
    have HE := Lib.hid (cells_copied (HC.out.drew ⟨1, rfl⟩) rfl H1.out.fit hg4.out hk4.out)
    have HK := Lib.hid (hk4.out.below (B := w.heap.size) HB.out.size (fun k hk => by have := HG.out.2; omega))
    clear hg4 hk4 HSRC HFIT HROW
    go_wp2
    go_ret
    exact ⟨_, _, rfl, HE.out, HG.out.1, HG.out.2, (HB.out.drew).trans HK.out⟩
end Go.Proofs.Ytjkfecfldnhfiaa
