/- An arena as it lies in memory; all, Len, has, State, left. Condition: what it has is as New and Claim leave it. -/
import Derived.Test.YtlbafmmeglafhaaKit
import Derived.Test.YtlbafmmeglafhaaArenaRef
namespace Go.Proofs.Ytlbafmmeglafhaa
open Go.RowKit

/-- A block: its state, its generation, what is in it. -/
abbrev Bk := Nat × Nat × Int
def uc (l : List Bk) : List Value := l.flatMap fun p => [.int .i64 p.1, .int .u64 p.2.1]
def hc (l : List Bk) : List Value := l.map fun p => .int .i64 p.2.2
theorem uc_cons (p : Bk) (l : List Bk) : uc (p :: l) = .int .i64 p.1 :: .int .u64 p.2.1 :: uc l := rfl
theorem uc_len (l : List Bk) : (uc l).length = l.length * 2 := by
  induction l with
  | nil => rfl
  | cons p l ih => rw [uc_cons, List.length_cons, List.length_cons, ih, List.length_cons]; omega
theorem hc_len (l : List Bk) : (hc l).length = l.length := by unfold hc; simp
theorem uc_get (l : List Bk) (j : Nat) (hj : j < l.length) : (uc l)[j * 2]? = some (.int .i64 l[j].1) ∧ (uc l)[j * 2 + 1]? = some (.int .u64 l[j].2.1) := by
  induction l generalizing j with
  | nil => simp at hj
  | cons p l ih =>
    cases j with
    | zero => exact ⟨rfl, rfl⟩
    | succ j =>
      have h := ih j (by simpa using hj)
      rw [uc_cons, show (j + 1) * 2 = j * 2 + 1 + 1 by omega, List.getElem?_cons_succ, List.getElem?_cons_succ, List.getElem?_cons_succ, List.getElem?_cons_succ]
      exact h
theorem hc_get (l : List Bk) (j : Nat) (hj : j < l.length) : (hc l)[j]? = some (.int .i64 l[j].2.2) := by
  unfold hc
  rw [List.getElem?_map, List.getElem?_eq_getElem hj]; rfl
theorem uc_set (l : List Bk) (j : Nat) (p : Bk) : ((uc l).set (j * 2) (.int .i64 p.1)).set (j * 2 + 1) (.int .u64 p.2.1) = uc (l.set j p) := by
  induction l generalizing j with
  | nil => rfl
  | cons q l ih =>
    cases j with
    | zero => rfl
    | succ j =>
      rw [uc_cons, show (j + 1) * 2 = j * 2 + 1 + 1 by omega, List.set_cons_succ, List.set_cons_succ, List.set_cons_succ, List.set_cons_succ, ih j]
      rfl
theorem hc_set (l : List Bk) (j : Nat) (p : Bk) : (hc l).set j (.int .i64 p.2.2) = hc (l.set j p) := by
  unfold hc
  rw [List.map_set]

/-- A block's state, its generation, what is in it. -/
def st (l : List Bk) (j : Nat) : Nat := (l.getD j (0, 0, 0)).1
def gn (l : List Bk) (j : Nat) : Nat := (l.getD j (0, 0, 0)).2.1
def xx (l : List Bk) (j : Nat) : Int := (l.getD j (0, 0, 0)).2.2
theorem bk_eq {l : List Bk} {j : Nat} (h : j < l.length) : l[j] = (st l j, gn l j, xx l j) := by
  unfold st gn xx
  rw [List.getD_eq_getElem?_getD, List.getElem?_eq_getElem h]; rfl

/-- What a block may be. -/
def Fits (p : Bk) : Prop := p.1 ≤ 2 ∧ p.2.1 ≤ 4294967295 ∧ ((p.1 = 0 → p.2.1 ≠ 4294967295) ∧ (p.1 ≠ 1 → p.2.2 = 0)) ∧ -9223372036854775808 ≤ p.2.2 ∧ p.2.2 ≤ 9223372036854775807

/-- An arena in memory: its struct's block b, its uses' block g, what is in them h. -/
structure ArenaAt (w : World) (b g h : Nat) (l : List Bk) : Prop where
  blk : Blk w b 58 #[.slice (some ⟨g, 0, none⟩) l.length l.length, .slice (some ⟨h, 0, none⟩) l.length l.length]
  row : Blk w g 73 (uc l).toArray
  held : Blk w h 3 (hc l).toArray
  len : 1 ≤ l.length ∧ l.length ≤ 8192
  fit : ∀ p ∈ l, Fits p

section
variable {w w' : World} {b g h : Nat} {l : List Bk}
theorem ArenaAt.below (H : ArenaAt w b g h l) (hb : Below w.heap.size w w') : ArenaAt w' b g h l := ⟨H.blk.below hb, H.row.below hb, H.held.below hb, H.len, H.fit⟩
theorem ArenaAt.drew (H : ArenaAt w b g h l) (hd : Drew w w') : ArenaAt w' b g h l := H.below (hd.below _)
theorem ArenaAt.c0 (H : ArenaAt w b g h l) : w.cell? ⟨b, 0, none⟩ = some (.slice (some ⟨g, 0, none⟩) l.length l.length) := (H.blk.cell 0).trans rfl
theorem ArenaAt.c1 (H : ArenaAt w b g h l) : w.cell? ⟨b, 1, none⟩ = some (.slice (some ⟨h, 0, none⟩) l.length l.length) := (H.blk.cell 1).trans rfl
theorem ArenaAt.fits (H : ArenaAt w b g h l) (j : Nat) (hj : j < l.length) : Fits (st l j, gn l j, xx l j) := by
  rw [← bk_eq hj]; exact H.fit _ (List.getElem_mem hj)
theorem ArenaAt.state (H : ArenaAt w b g h l) (j : Nat) (hj : j < l.length) : w.cell? ⟨g, j * 2, none⟩ = some (.int .i64 (st l j : Nat)) := by
  have := (uc_get l j hj).1
  rw [bk_eq hj] at this
  rw [H.row.cell, ← this]; simp
theorem ArenaAt.gen (H : ArenaAt w b g h l) (j : Nat) (hj : j < l.length) : w.cell? ⟨g, j * 2 + 1, none⟩ = some (.int .u64 (gn l j : Nat)) := by
  have := (uc_get l j hj).2
  rw [bk_eq hj] at this
  rw [H.row.cell, ← this]; simp
theorem ArenaAt.has (H : ArenaAt w b g h l) (j : Nat) (hj : j < l.length) : w.cell? ⟨h, j, none⟩ = some (.int .i64 (xx l j)) := by
  have := hc_get l j hj
  rw [bk_eq hj] at this
  rw [H.held.cell, ← this]; simp
theorem ArenaAt.gh (H : ArenaAt w b g h l) : g ≠ h := H.row.ne_ H.held (by decide)
theorem ArenaAt.bg (H : ArenaAt w b g h l) : b ≠ g := H.blk.ne_ H.row (by decide)
theorem ArenaAt.bh (H : ArenaAt w b g h l) : b ≠ h := H.blk.ne_ H.held (by decide)

theorem fit_set {l : List Bk} {p : Bk} (hf : ∀ p ∈ l, Fits p) (hp : Fits p) (j : Nat) : ∀ q ∈ l.set j p, Fits q := by
  intro q hq
  rcases List.mem_or_eq_of_mem_set hq with hq | rfl
  · exact hf q hq
  · exact hp
/-- A write of a use: what is in it has not turned. -/
theorem ArenaAt.setUse (H : ArenaAt w b g h l) (j s v : Nat) (hj : j < l.length) (hp : Fits (s, v, xx l j)) : ArenaAt ((w.setCell ⟨g, j * 2, none⟩ (.int .i64 s)).setCell ⟨g, j * 2 + 1, none⟩ (.int .u64 v)) b g h (l.set j (s, v, xx l j)) := by
  refine ⟨?_, ?_, ?_, by rw [List.length_set]; exact H.len, fit_set H.fit hp j⟩
  · rw [List.length_set]
    exact (H.blk.far H.bg _).far H.bg _
  · have := (H.row.set_ (j * 2) (.int .i64 s)).set_ (j * 2 + 1) (.int .u64 v)
    rw [List.setIfInBounds_toArray, List.setIfInBounds_toArray, uc_set l j (s, v, xx l j)] at this
    exact this
  · have e : hc (l.set j (s, v, xx l j)) = hc l := by
      rw [← hc_set]
      apply List.ext_getElem?
      intro i
      rw [List.getElem?_set]
      split
      · subst_vars
        rw [hc_len, if_pos hj, hc_get l _ hj, bk_eq hj]
      · rfl
    rw [e]
    exact (H.held.far H.gh.symm _).far H.gh.symm _
/-- A write of what is in it. -/
theorem ArenaAt.setHeld (H : ArenaAt w b g h l) (j : Nat) (x : Int) (hj : j < l.length) (hp : Fits (st l j, gn l j, x)) : ArenaAt (w.setCell ⟨h, j, none⟩ (.int .i64 x)) b g h (l.set j (st l j, gn l j, x)) := by
  refine ⟨?_, ?_, ?_, by rw [List.length_set]; exact H.len, fit_set H.fit hp j⟩
  · rw [List.length_set]
    exact H.blk.far H.bh _
  · have e : uc (l.set j (st l j, gn l j, x)) = uc l := by
      rw [← uc_set]
      apply List.ext_getElem?
      intro i
      have h2 := uc_get l j hj
      rw [bk_eq hj] at h2
      rw [List.getElem?_set, List.getElem?_set]
      split
      · subst_vars
        rw [List.length_set, uc_len, if_pos (by omega), h2.2]
      split
      · subst_vars
        rw [uc_len, if_pos (by omega), h2.1]
      · rfl
    rw [e]
    exact H.row.far H.gh _
  · have := H.held.set_ j (.int .i64 x)
    rw [List.setIfInBounds_toArray, hc_set l j (st l j, gn l j, x)] at this
    exact this
end

theorem all_any (b g h : Nat) (l : List Bk) (w : World) (H : ArenaAt w b g h l) :
    Calls Try.prog 42 #[.pointer (some ⟨b, 0, none⟩)] w fun e w' => e = .returned (.slice (some ⟨g, 0, none⟩) l.length l.length) ∧ w = w' := by
  have c0 := H.c0
  clear H
  generalize l.length = n at *
  go_enter Try.func42, Try.ntmps42
  go_wp2
  go_ret
  exact ⟨rfl, rfl⟩
theorem all_nil (w : World) :
    Calls Try.prog 42 #[.pointer none] w fun e w' => e = .returned (.slice none 0 0) ∧ w = w' := by
  go_enter Try.func42, Try.ntmps42
  go_wp2
  go_ret
  exact ⟨rfl, rfl⟩
theorem all_plain (b : Nat) (w : World) (H : w.cell? ⟨b, 0, none⟩ = some (.slice none 0 0)) :
    Calls Try.prog 42 #[.pointer (some ⟨b, 0, none⟩)] w fun e w' => e = .returned (.slice none 0 0) ∧ w = w' := by
  go_enter Try.func42, Try.ntmps42
  go_wp2
  go_ret
  exact ⟨rfl, rfl⟩

/-- How many blocks there are, of whatever all tells. -/
theorem len_all (v : Value) (a : Option Addr) (n : Nat) (w : World) (hl : Calls Try.prog 42 #[v] w fun e w' => e = .returned (.slice a n n) ∧ w = w') :
    Calls Try.prog 13 #[v] w fun e w' => e = .returned (.int .i64 n) ∧ w = w' := by
  have HL := Lib.hid hl
  clear hl
  go_enter Try.func13, Try.ntmps13
  go_wp2_with fail
  refine HL.out.mono ?_
  rintro e w1 ⟨rfl, rfl⟩
  go_wp2
  go_ret
  exact ⟨rfl, rfl⟩
theorem aLen_any (b g h : Nat) (l : List Bk) (w : World) (H : ArenaAt w b g h l) :
    Calls Try.prog 13 #[.pointer (some ⟨b, 0, none⟩)] w fun e w' => e = .returned (.int .i64 l.length) ∧ w = w' :=
  len_all _ _ _ w (all_any b g h l w H)
theorem aLen_nil (w : World) :
    Calls Try.prog 13 #[.pointer none] w fun e w' => e = .returned (.int .i64 (0 : Nat)) ∧ w = w' :=
  len_all _ _ 0 w (all_nil w)
theorem aLen_plain (b : Nat) (w : World) (H : w.cell? ⟨b, 0, none⟩ = some (.slice none 0 0)) :
    Calls Try.prog 13 #[.pointer (some ⟨b, 0, none⟩)] w fun e w' => e = .returned (.int .i64 (0 : Nat)) ∧ w = w' :=
  len_all _ _ 0 w (all_plain b w H)

/-- Whether there is such a block. -/
def inB (i : Int) (n : Nat) : Bool := decide (0 ≤ i ∧ i < n)
theorem inB_iff (i : Int) (n : Nat) : inB i n = true ↔ 0 ≤ i ∧ i < n := by unfold inB; rw [decide_eq_true_iff]

theorem has_len (v : Value) (n : Nat) (i : Int) (w : World) (hl : Calls Try.prog 13 #[v] w fun e w' => e = .returned (.int .i64 n) ∧ w = w') :
    Calls Try.prog 39 #[v, .int .i64 i] w fun e w' => e = .returned (.bool (inB i n)) ∧ w = w' := by
  have HL := Lib.hid hl
  have hb := inB_iff i n
  clear hl
  by_cases h0 : 0 ≤ i
  · by_cases h1 : i < n
    · have HB := Lib.hid (hb.2 ⟨h0, h1⟩)
      clear hb
      go_enter Try.func39, Try.ntmps39
      go_wp2_with fail
      refine HL.out.mono ?_
      rintro e w1 ⟨rfl, rfl⟩
      go_wp2
      go_ret
      exact ⟨by rw [HB.out]; rfl, rfl⟩
    · have HB := Lib.hid (bool_not hb (by omega))
      have hd : decide (i < (n : Int)) = false := by simpa using h1
      clear hb
      go_enter Try.func39, Try.ntmps39
      go_wp2_with fail
      refine HL.out.mono ?_
      rintro e w1 ⟨rfl, rfl⟩
      go_wp2
      go_ret
      exact ⟨by rw [HB.out]; rfl, rfl⟩
  · have HB := Lib.hid (bool_not hb (by omega))
    clear hb
    go_enter Try.func39, Try.ntmps39
    go_wp2
    go_ret
    exact ⟨by rw [HB.out]; rfl, rfl⟩

theorem state_out (v : Value) (n : Nat) (i : Int) (w : World) (hl : Calls Try.prog 13 #[v] w fun e w' => e = .returned (.int .i64 n) ∧ w = w') (hi : ¬ (0 ≤ i ∧ i < n)) :
    Calls Try.prog 24 #[v, .int .i64 i] w fun e w' => e = .returned (.tuple #[.int .i64 0, .int .u64 0, .bool false]) ∧ w = w' := by
  have hh := has_len v n i w hl
  rw [bool_not (inB_iff i n) hi] at hh
  have HH := Lib.hid hh
  clear hh hl hi
  go_enter Try.func24, Try.ntmps24
  go_wp2_with fail
  refine HH.out.mono ?_
  rintro e w1 ⟨rfl, rfl⟩
  go_wp2
  go_ret3
  exact ⟨rfl, rfl⟩

set_option maxHeartbeats 1000000 in
theorem state_in (b g h : Nat) (l : List Bk) (j : Nat) (w : World) (H : ArenaAt w b g h l) (hj : j < l.length) :
    Calls Try.prog 24 #[.pointer (some ⟨b, 0, none⟩), .int .i64 j] w fun e w' => e = .returned (.tuple #[.int .i64 (st l j : Nat), .int .u64 (gn l j : Nat), .bool true]) ∧ Below w.heap.size w w' := by
  have hh := has_len _ l.length j w (aLen_any b g h l w H)
  rw [(inB_iff j l.length).2 ⟨by omega, by omega⟩] at hh
  have HH := Lib.hid hh
  have c0 := H.c0
  have c1 := H.state j hj
  have c2 := H.gen j hj
  have hl := H.len
  clear hh H
  generalize st l j = x at *
  generalize gn l j = y at *
  have HB := Lib.hid (one_alloc w (.cells #[.int .i64 x, .int .u64 y] 73)).2
  have hj' : (j : Int) < l.length := by omega
  generalize l.length = n at *
  go_enter Try.func24, Try.ntmps24
  go_wp2_with fail
  refine HH.out.mono ?_
  rintro e w1 ⟨rfl, rfl⟩
  go_wp2
  go_quiet (fail)
  go_wp2
  go_ret3
  exact ⟨rfl, HB.out.trans ((Drew.below ⟨_, rfl⟩ _))⟩

/-- A block that nobody uses, of a generation. -/
def leftS (v : Nat) : Nat := if v = 4294967295 then 2 else 0
theorem left_any (v : Nat) (w : World) :
    Calls Try.prog 38 #[.int .u64 v] w fun e w' => e = .returned (.agg #[.int .i64 (leftS v : Nat), .int .u64 v]) ∧ Below w.heap.size w w' := by
  by_cases hv : v = 4294967295
  · have HS : Hid (leftS v = 2) := Lib.hid (by unfold leftS; rw [if_pos hv])
    have hd : ((v : Int) == 4294967295) = true := by simp; omega
    clear hv
    go_enter Try.func38, Try.ntmps38
    go_wp2
    refine bodyPost_ret (v := .agg #[.int .i64 2, .int .u64 v]) (by simp [results, Try.results38, go_sem, *]) rfl ⟨by rw [HS.out]; rfl, ?_⟩
    exact (one_alloc w _).2
  · have HS : Hid (leftS v = 0) := Lib.hid (by unfold leftS; rw [if_neg hv])
    have hd : ((v : Int) == 4294967295) = false := by simp; omega
    clear hv
    go_enter Try.func38, Try.ntmps38
    go_wp2
    refine bodyPost_ret (v := .agg #[.int .i64 0, .int .u64 v]) (by simp [results, Try.results38, go_sem, *]) rfl ⟨by rw [HS.out]; rfl, ?_⟩
    exact (one_alloc w _).2
end Go.Proofs.Ytlbafmmeglafhaa
