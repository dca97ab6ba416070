/- Cells as they lie in memory; Len, has, Load, Cas, Store. Condition: words and versions are words. -/
import Derived.Test.YtjkfecfldnhfiaaKit
namespace Go.Proofs.Ytjkfecfldnhfiaa
open Go.RowKit

def cc (l : List (Nat × Nat)) : List Value := l.flatMap fun p => [.int .u64 p.1, .int .u64 p.2]
theorem cc_len (l : List (Nat × Nat)) : (cc l).length = l.length * 2 := by
  unfold cc
  induction l with
  | nil => rfl
  | cons p l ih => rw [List.flatMap_cons, List.length_append, ih, List.length_cons]; simp; omega
theorem cc_cons (p : Nat × Nat) (l : List (Nat × Nat)) : cc (p :: l) = .int .u64 p.1 :: .int .u64 p.2 :: cc l := rfl
theorem cc_get (l : List (Nat × Nat)) (j : Nat) (hj : j < l.length) : (cc l)[j * 2]? = some (.int .u64 l[j].1) ∧ (cc l)[j * 2 + 1]? = some (.int .u64 l[j].2) := by
  induction l generalizing j with
  | nil => simp at hj
  | cons p l ih =>
    cases j with
    | zero => exact ⟨rfl, rfl⟩
    | succ j =>
      have h := ih j (by simpa using hj)
      rw [cc_cons, show (j + 1) * 2 = j * 2 + 1 + 1 by omega, List.getElem?_cons_succ, List.getElem?_cons_succ, List.getElem?_cons_succ, List.getElem?_cons_succ]
      exact h
theorem cc_set (l : List (Nat × Nat)) (j : Nat) (a b : Nat) : ((cc l).set (j * 2) (.int .u64 a)).set (j * 2 + 1) (.int .u64 b) = cc (l.set j (a, b)) := by
  induction l generalizing j with
  | nil => rfl
  | cons p l ih =>
    cases j with
    | zero => rfl
    | succ j =>
      rw [cc_cons, show (j + 1) * 2 = j * 2 + 1 + 1 by omega, List.set_cons_succ, List.set_cons_succ, List.set_cons_succ, List.set_cons_succ, ih j]
      rfl
theorem cc_rep (n : Nat) : cc (List.replicate n (0, 0)) = List.replicate (n * 2) (.int .u64 0) := by
  induction n with
  | zero => rfl
  | succ n ih => rw [List.replicate_succ, cc_cons, ih, show (n + 1) * 2 = n * 2 + 1 + 1 by omega]; rfl

/-- A cell's word, and its version. -/
def wd (l : List (Nat × Nat)) (j : Nat) : Nat := (l.getD j (0, 0)).1
def vr (l : List (Nat × Nat)) (j : Nat) : Nat := (l.getD j (0, 0)).2
theorem wd_eq {l : List (Nat × Nat)} {j : Nat} (h : j < l.length) : l[j] = (wd l j, vr l j) := by
  unfold wd vr
  rw [List.getD_eq_getElem?_getD, List.getElem?_eq_getElem h]; rfl

/-- Cells in memory: their struct's block b, their row's block g. -/
structure CellsAt (w : World) (b g : Nat) (l : List (Nat × Nat)) : Prop where
  blk : Blk w b 64 #[.slice (some ⟨g, 0, none⟩) l.length l.length]
  row : Blk w g 66 (cc l).toArray
  len : l.length ≤ 65536
  fit : ∀ p ∈ l, p.1 < 18446744073709551616 ∧ p.2 < 18446744073709551616

section
variable {w w' : World} {b g : Nat} {l : List (Nat × Nat)}
theorem CellsAt.below (h : CellsAt w b g l) (hb : Below w.heap.size w w') : CellsAt w' b g l := ⟨h.blk.below hb, h.row.below hb, h.len, h.fit⟩
theorem CellsAt.drew (h : CellsAt w b g l) (hd : Drew w w') : CellsAt w' b g l := h.below (hd.below _)
theorem CellsAt.ne (h : CellsAt w b g l) : b ≠ g := h.blk.ne_ h.row (by decide)
theorem CellsAt.c0 (h : CellsAt w b g l) : w.cell? ⟨b, 0, none⟩ = some (.slice (some ⟨g, 0, none⟩) l.length l.length) := (h.blk.cell 0).trans rfl
theorem CellsAt.word (h : CellsAt w b g l) (j : Nat) (hj : j < l.length) : w.cell? ⟨g, j * 2, none⟩ = some (.int .u64 (wd l j : Nat)) := by
  have := (cc_get l j hj).1
  rw [wd_eq hj] at this
  rw [h.row.cell, ← this]; simp
theorem CellsAt.ver (h : CellsAt w b g l) (j : Nat) (hj : j < l.length) : w.cell? ⟨g, j * 2 + 1, none⟩ = some (.int .u64 (vr l j : Nat)) := by
  have := (cc_get l j hj).2
  rw [wd_eq hj] at this
  rw [h.row.cell, ← this]; simp
theorem CellsAt.set (h : CellsAt w b g l) (j a v : Nat) (ha : a < 18446744073709551616) (hv : v < 18446744073709551616) : CellsAt ((w.setCell ⟨g, j * 2, none⟩ (.int .u64 a)).setCell ⟨g, j * 2 + 1, none⟩ (.int .u64 v)) b g (l.set j (a, v)) := by
  refine ⟨?_, ?_, by rw [List.length_set]; exact h.len, fun p hp => ?_⟩
  · rw [List.length_set]
    exact (h.blk.far h.ne _).far h.ne _
  · have := (h.row.set_ (j * 2) (.int .u64 a)).set_ (j * 2 + 1) (.int .u64 v)
    rw [List.setIfInBounds_toArray, List.setIfInBounds_toArray, cc_set] at this
    exact this
  · rcases List.mem_or_eq_of_mem_set hp with hp | rfl
    · exact h.fit p hp
    · exact ⟨ha, hv⟩
end

theorem cLen_any (b g : Nat) (l : List (Nat × Nat)) (w : World) (h : CellsAt w b g l) :
    Calls Try.prog 23 #[.pointer (some ⟨b, 0, none⟩)] w fun e w' => e = .returned (.int .i64 l.length) ∧ w = w' := by
  have c0 := h.c0
  have hl := h.len
  clear h
  generalize l.length = n at *
  go_enter Try.func23, Try.ntmps23
  go_wp2
  go_ret
  exact ⟨rfl, rfl⟩
theorem cLen_nil (w : World) :
    Calls Try.prog 23 #[.pointer none] w fun e w' => e = .returned (.int .i64 0) ∧ w = w' := by
  go_enter Try.func23, Try.ntmps23
  go_wp2
  go_ret
  exact ⟨rfl, rfl⟩

/-- Whether there is such a cell. -/
def inB (i : Int) (n : Nat) : Bool := decide (0 ≤ i ∧ i < n)
theorem inB_iff (i : Int) (n : Nat) : inB i n = true ↔ 0 ≤ i ∧ i < n := by unfold inB; rw [decide_eq_true_iff]
theorem bool_not {b : Bool} {p : Prop} (h : b = true ↔ p) (hn : ¬ p) : b = false := by
  cases b with
  | false => rfl
  | true => exact absurd (h.1 rfl) hn

theorem has_len (v : Value) (n : Nat) (i : Int) (w : World) (hl : Calls Try.prog 23 #[v] w fun e w' => e = .returned (.int .i64 n) ∧ w = w') :
    Calls Try.prog 35 #[v, .int .i64 i] w fun e w' => e = .returned (.bool (inB i n)) ∧ w = w' := by
  have HL := Lib.hid hl
  have hb := inB_iff i n
  clear hl
  by_cases h0 : 0 ≤ i
  · by_cases h1 : i < n
    · have HB := Lib.hid (hb.2 ⟨h0, h1⟩)
      clear hb
      go_enter Try.func35, Try.ntmps35
      go_wp2_with fail
      refine HL.out.mono ?_
      rintro e w1 ⟨rfl, rfl⟩
      go_wp2
      go_ret
      exact ⟨by rw [HB.out]; rfl, rfl⟩
    · have HB := Lib.hid (bool_not hb (by omega))
      have hd : decide (i < (n : Int)) = false := by simpa using h1
      clear hb
      go_enter Try.func35, Try.ntmps35
      go_wp2_with fail
      refine HL.out.mono ?_
      rintro e w1 ⟨rfl, rfl⟩
      go_wp2
      go_ret
      exact ⟨by rw [HB.out]; rfl, rfl⟩
  · have HB := Lib.hid (bool_not hb (by omega))
    clear hb
    go_enter Try.func35, Try.ntmps35
    go_wp2
    go_ret
    exact ⟨by rw [HB.out]; rfl, rfl⟩

/-- Load where there is no such cell, or no cells. -/
theorem load_out (v : Value) (n : Nat) (i : Int) (w : World) (hl : Calls Try.prog 23 #[v] w fun e w' => e = .returned (.int .i64 n) ∧ w = w') (hi : ¬ (0 ≤ i ∧ i < n)) :
    Calls Try.prog 28 #[v, .int .i64 i] w fun e w' => e = .returned (.tuple #[.int .u64 0, .int .u64 0, .bool false]) ∧ w = w' := by
  have hh := has_len v n i w hl
  rw [bool_not (inB_iff i n) hi] at hh
  have HH := Lib.hid hh
  clear hh hl hi
  go_enter Try.func28, Try.ntmps28
  go_wp2_with fail
  refine HH.out.mono ?_
  rintro e w1 ⟨rfl, rfl⟩
  go_wp2
  go_ret3
  exact ⟨rfl, rfl⟩

set_option maxHeartbeats 1000000 in
theorem load_in (b g : Nat) (l : List (Nat × Nat)) (j : Nat) (w : World) (h : CellsAt w b g l) (hj : j < l.length) :
    Calls Try.prog 28 #[.pointer (some ⟨b, 0, none⟩), .int .i64 j] w fun e w' => e = .returned (.tuple #[.int .u64 (wd l j : Nat), .int .u64 (vr l j : Nat), .bool true]) ∧ Drew w w' := by
  have hh := has_len _ l.length j w (cLen_any b g l w h)
  rw [(inB_iff j l.length).2 ⟨by omega, by omega⟩] at hh
  have HH := Lib.hid hh
  have c0 := h.c0
  have c1 := h.word j hj
  have c2 := h.ver j hj
  have hl := h.len
  clear hh h
  generalize wd l j = x at *
  generalize vr l j = y at *
  have hj' : (j : Int) < l.length := by omega
  generalize l.length = n at *
  go_enter Try.func28, Try.ntmps28
  go_wp2_with fail
  refine HH.out.mono ?_
  rintro e w1 ⟨rfl, rfl⟩
  go_wp2
  go_quiet (fail)
  go_wp2
  go_ret3
  exact ⟨rfl, _, rfl⟩
end Go.Proofs.Ytjkfecfldnhfiaa
