/- Where a memory's cells are: memory.many, begin, at, isThread, all, of any memory's struct; Node, Use, Announce, Done, Phase, Hazard, Gate, Arena, Threads. Condition: an arena and threads that can be. -/
import Derived.Test.YtkdjcikilabehaaMemKit
import Derived.Lib.Hide
namespace Go.Proofs.Ytkdjcikilabehaa
open Go.RowKit

/-- A memory's struct. -/
structure MBox (w : World) (o : Nat) (A T : Nat) (cp bs rs : Value) : Prop where
  blk : Blk w o 80 #[cp, .int .i64 A, .int .i64 T, bs, rs]
  a : A ≤ 8192
  t : T ≤ 16
section
variable {w w' : World} {o A T : Nat} {cp bs rs : Value}
theorem MBox.below (h : MBox w o A T cp bs rs) (hb : Below w.heap.size w w') : MBox w' o A T cp bs rs := ⟨h.blk.below hb, h.a, h.t⟩
theorem MBox.c0 (h : MBox w o A T cp bs rs) : w.cell? ⟨o, 0, none⟩ = some cp := (h.blk.cell 0).trans rfl
theorem MBox.c1 (h : MBox w o A T cp bs rs) : w.cell? ⟨o, 1, none⟩ = some (.int .i64 A) := (h.blk.cell 1).trans rfl
theorem MBox.c2 (h : MBox w o A T cp bs rs) : w.cell? ⟨o, 2, none⟩ = some (.int .i64 T) := (h.blk.cell 2).trans rfl
theorem MBox.c3 (h : MBox w o A T cp bs rs) : w.cell? ⟨o, 3, none⟩ = some bs := (h.blk.cell 3).trans rfl
theorem MBox.c4 (h : MBox w o A T cp bs rs) : w.cell? ⟨o, 4, none⟩ = some rs := (h.blk.cell 4).trans rfl
end
/-- How many cells there are of a kind. -/
def manyM (A T k : Nat) : Nat := if k < 2 then A else if k < 5 then T else if k = 5 then T * 2 else min A 1
/-- The first cell of a kind. -/
def begM (A T : Nat) : Nat → Nat
  | 0 => 0
  | k + 1 => begM A T k + manyM A T k
/-- The cell of one thing of a kind. -/
def atM (A T k : Nat) (i : Int) : Int := if 0 ≤ i ∧ i < (manyM A T k : Int) then (begM A T k : Int) + i else -1
theorem many_bd {A T : Nat} (hA : A ≤ 8192) (hT : T ≤ 16) (k : Nat) : manyM A T k ≤ 8192 := by
  unfold manyM
  repeat' split
  all_goals omega
theorem beg_bd {A T : Nat} (hA : A ≤ 8192) (hT : T ≤ 16) : ∀ k : Nat, begM A T k ≤ 8192 * k
  | 0 => Nat.le_refl _
  | k + 1 => by
    have h1 := beg_bd hA hT k
    have h2 := many_bd hA hT k
    show begM A T k + manyM A T k ≤ _
    omega

set_option maxHeartbeats 1000000 in
theorem many_any (o A T k : Nat) (cp bs rs : Value) (hk : k ≤ 6) (w : World) (h : MBox w o A T cp bs rs) :
    Calls Try.prog 63 #[.pointer (some ⟨o, 0, none⟩), .int .i64 k] w fun e w' => e = .returned (.int .i64 (manyM A T k : Nat)) ∧ w' = w := by
  have c1 := h.c1
  have c2 := h.c2
  have hA := h.a
  have hT := h.t
  clear h
  obtain rfl | rfl | rfl | rfl | rfl | rfl | rfl : k = 0 ∨ k = 1 ∨ k = 2 ∨ k = 3 ∨ k = 4 ∨ k = 5 ∨ k = 6 := by omega
  all_goals
    go_enter Try.func63, Try.ntmps63
    go_wp2
    all_goals
      go_ret
      refine ⟨?_, rfl⟩
      unfold manyM
      first
        | rfl
        | (simp; omega)

set_option maxHeartbeats 1000000 in
theorem begin_any (o A T n : Nat) (cp bs rs : Value) (hn : n ≤ 7) (w : World) (h : MBox w o A T cp bs rs) :
    Calls Try.prog 53 #[.pointer (some ⟨o, 0, none⟩), .int .i64 n] w fun e w' => e = .returned (.int .i64 (begM A T n : Nat)) ∧ w' = w := by
  have HM := Lib.hid (fun k hk => many_any o A T k cp bs rs hk w h)
  have HB := Lib.hid (beg_bd h.a h.t)
  have HD := Lib.hid (many_bd h.a h.t)
  have HS : Hid (∀ k, ((begM A T k : Nat) : Int) + (manyM A T k : Nat) = (begM A T (k + 1) : Nat)) := Lib.hid (fun k => by show _ = ((begM A T k + manyM A T k : Nat) : Int); omega)
  have HZ : Hid (begM A T 0 = 0) := Lib.hid rfl
  clear h
  go_enter Try.func53, Try.ntmps53
  go_wp2
  go_loopw [5, 8] (fun c s wr => ∃ i : Nat, s = .int .i64 i ∧ i ≤ n ∧ c = .int .i64 (begM A T i : Nat) ∧ Hid (w = wr)) (fun _ s _ => n - (intOf s).toNat)
  case atStart => exact ⟨0, rfl, Nat.zero_le _, by rw [HZ.out]; rfl, Lib.hid rfl⟩
  case round =>
    obtain ⟨i, rfl, hi, rfl, hw⟩ := hrel
    obtain rfl := hw.out
    by_cases hlt : i < n
    · have hlt' : (i : Int) < n := by omega
      have hb := HB.out i
      have hd := HD.out i
      have hs := HS.out i
      have HC := Lib.hid (HM.out i (by omega))
      generalize begM A T i = x at *
      generalize manyM A T i = z at *
      have HS2 := Lib.hid hs
      clear hs
      go_wp2_with fail
      refine HC.out.mono ?_
      rintro e w2 ⟨rfl, rfl⟩
      go_wp2
      go_roundw
      case rel => exact ⟨i + 1, by go_num, by omega, by rw [← HS2.out], Lib.hid trivial⟩
      case measure => simp [intOf]; omega
    · obtain rfl : i = n := by omega
      go_wp2
      go_ret
      exact ⟨rfl, rfl⟩

set_option maxHeartbeats 1000000 in
theorem at_any (o A T k : Nat) (i : Int) (cp bs rs : Value) (hk : k ≤ 6) (w : World) (h : MBox w o A T cp bs rs) :
    Calls Try.prog 38 #[.pointer (some ⟨o, 0, none⟩), .int .i64 k, .int .i64 i] w fun e w' => e = .returned (.int .i64 (atM A T k i)) ∧ w' = w := by
  have HM := Lib.hid (many_any o A T k cp bs rs hk w h)
  have HG := Lib.hid (begin_any o A T k cp bs rs (by omega) w h)
  have hb := beg_bd h.a h.t k
  have hd := many_bd h.a h.t k
  have hr : atM A T k i = if 0 ≤ i ∧ i < (manyM A T k : Int) then (begM A T k : Int) + i else -1 := rfl
  clear h
  generalize begM A T k = x at *
  generalize manyM A T k = y at *
  by_cases h0 : 0 ≤ i
  · by_cases h1 : i < (y : Int)
    · rw [if_pos ⟨h0, h1⟩] at hr
      have HR := Lib.hid hr
      have g1 : ¬ i < 0 := by omega
      have g2 : ¬ (y : Int) ≤ i := by omega
      clear hr
      go_enter Try.func38, Try.ntmps38
      go_wp2_with fail
      refine HM.out.mono ?_
      rintro e w1 ⟨rfl, rfl⟩
      go_wp2_with fail
      refine HG.out.mono ?_
      rintro e w1 ⟨rfl, rfl⟩
      go_wp2
      go_ret
      exact ⟨by rw [HR.out]; rfl, rfl⟩
    · rw [if_neg (by omega)] at hr
      have HR := Lib.hid hr
      have g1 : ¬ i < 0 := by omega
      have g2 : (y : Int) ≤ i := by omega
      clear hr
      go_enter Try.func38, Try.ntmps38
      go_wp2_with fail
      refine HM.out.mono ?_
      rintro e w1 ⟨rfl, rfl⟩
      go_wp2
      go_ret
      exact ⟨by rw [HR.out]; rfl, rfl⟩
  · rw [if_neg (by omega)] at hr
    have HR := Lib.hid hr
    have g1 : i < 0 := by omega
    clear hr
    go_enter Try.func38, Try.ntmps38
    go_wp2
    go_ret
    exact ⟨by rw [HR.out]; rfl, rfl⟩

/-- Is there such a thread? -/
def thrB (T : Nat) (t : Int) : Bool := decide (0 ≤ t ∧ t < (T : Int))
theorem isThread_any (o A T : Nat) (t : Int) (cp bs rs : Value) (w : World) (h : MBox w o A T cp bs rs) :
    Calls Try.prog 51 #[.pointer (some ⟨o, 0, none⟩), .int .i64 t] w fun e w' => e = .returned (.bool (thrB T t)) ∧ w' = w := by
  have c2 := h.c2
  clear h
  by_cases h0 : 0 ≤ t
  · by_cases h1 : t < (T : Int)
    · have HR : Hid (thrB T t = true) := Lib.hid (by unfold thrB; simp [h0, h1])
      go_enter Try.func51, Try.ntmps51
      go_wp2
      go_ret
      exact ⟨by rw [HR.out]; first | rfl | simp [h1], rfl⟩
    · have HR : Hid (thrB T t = false) := Lib.hid (by unfold thrB; simp [h1])
      have h2 : decide (t < (T : Int)) = false := by simpa using h1
      go_enter Try.func51, Try.ntmps51
      go_wp2
      go_ret
      exact ⟨by rw [HR.out]; first | rfl | simp [h1], rfl⟩
  · have HR : Hid (thrB T t = false) := Lib.hid (by unfold thrB; simp [h0])
    go_enter Try.func51, Try.ntmps51
    go_wp2
    go_ret
    exact ⟨by rw [HR.out]; rfl, rfl⟩

/-- What all tells: a memory's struct. -/
def AllOf (w w' : World) (e : Ending) (A T : Nat) (cp bs rs : Value) : Prop := ∃ o, e = .returned (.pointer (some ⟨o, 0, none⟩)) ∧ MBox w' o A T cp bs rs ∧ Below w.heap.size w w'
/-- A memory: what all tells of it, in any later world. -/
def Mem (w : World) (v : Value) (A T : Nat) (cp bs rs : Value) : Prop := ∀ W, Below w.heap.size w W → Calls Try.prog 34 #[v] W fun e w' => AllOf W w' e A T cp bs rs
theorem Mem.below {w w' : World} {v : Value} {A T : Nat} {cp bs rs : Value} (h : Mem w v A T cp bs rs) (hb : Below w.heap.size w w') : Mem w' v A T cp bs rs := fun W hW => h W (hb.trans (hW.mono hb.size))
theorem all_nil (w : World) : Mem w (.pointer none) 0 0 (.pointer none) (.slice none 0 0) (.slice none 0 0) := by
  intro W hW
  have HB := Lib.hid (Blk.new W 80 #[.pointer none, .int .i64 0, .int .i64 0, .slice none 0 0, .slice none 0 0])
  have HL := Lib.hid (one_alloc W (.cells #[.pointer none, .int .i64 0, .int .i64 0, .slice none 0 0, .slice none 0 0] 80)).2
  clear hW
  go_enter Try.func34, Try.ntmps34
  go_wp2
  go_ret
  exact ⟨_, rfl, ⟨HB.out, Nat.zero_le _, Nat.zero_le _⟩, HL.out⟩
theorem all_none (w : World) (p : Nat) (h : Blk w p 75 #[.pointer none]) : Mem w (.pointer (some ⟨p, 0, none⟩)) 0 0 (.pointer none) (.slice none 0 0) (.slice none 0 0) := by
  intro W hW
  have c0 : W.cell? ⟨p, 0, none⟩ = some (.pointer none) := ((h.below hW).cell 0).trans rfl
  have HB := Lib.hid (Blk.new W 80 #[.pointer none, .int .i64 0, .int .i64 0, .slice none 0 0, .slice none 0 0])
  have HL := Lib.hid (one_alloc W (.cells #[.pointer none, .int .i64 0, .int .i64 0, .slice none 0 0, .slice none 0 0] 80)).2
  clear hW h
  go_enter Try.func34, Try.ntmps34
  go_wp2
  go_ret
  exact ⟨_, rfl, ⟨HB.out, Nat.zero_le _, Nat.zero_le _⟩, HL.out⟩
theorem all_some (w : World) (p o A T : Nat) (cp bs rs : Value) (h : Blk w p 75 #[.pointer (some ⟨o, 0, none⟩)]) (hm : MBox w o A T cp bs rs) : Mem w (.pointer (some ⟨p, 0, none⟩)) A T cp bs rs := by
  intro W hW
  have c0 : W.cell? ⟨p, 0, none⟩ = some (.pointer (some ⟨o, 0, none⟩)) := ((h.below hW).cell 0).trans rfl
  have HM := Lib.hid (hm.below hW)
  clear hW h hm
  go_enter Try.func34, Try.ntmps34
  go_wp2
  go_ret
  exact ⟨_, rfl, HM.out, Below.refl _ _⟩
end Go.Proofs.Ytkdjcikilabehaa
