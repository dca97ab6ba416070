/- bowerref05.Cut: an item whose box is what is left of the item's box. Conditions: the item's numbers are numbers; at most 2^30 items and bytes. -/
import Derived.Test.YtbghemndcndhpaaDoorBoxDeep
import Derived.Deep.RegionHeldLaw
namespace Go.Proofs.YtbghemndcndhpaaDoor
open Go.RowKit

def CutGives (S : Nat → Prop) (w w' : World) (e : Ending) (x : Itm) : Prop :=
  ∃ u y, e = .returned u ∧ Sits (fun k => S k ∨ w.heap.size ≤ k) w' y u ∧ bxI y = cutB (bxI x) ∧ vI y ∧ okI y ∧ wI y ≤ wI x ∧ Below w.heap.size w w'

def CutOk (x : Itm) : Prop := ∀ (S : Nat → Prop) (v : Value) (w : World), Sits S w x v → okI x → wI x ≤ 1073741824 →
  Calls Tryd.prog 9 #[v] w fun e w' => CutGives S w w' e x

theorem bx_zero : bxI (.mk 0 0 ⟨#[]⟩ []) = .nothing := by
  rw [bxI, if_neg (by omega), if_neg (by omega), if_neg (by omega), if_neg (by omega)]
theorem cut_plain (k n : Int) (s : ByteArray) (l : List Itm) (hk : k ≠ 4) : cutB (bxI (.mk k n s l)) = bxI (.mk k n s l) := by
  rw [bxI]
  by_cases h1 : k = 1
  · rw [if_pos h1, cutB]
  rw [if_neg h1]
  by_cases h2 : k = 2
  · rw [if_pos h2, cutB]
  rw [if_neg h2]
  by_cases h3 : k = 3
  · rw [if_pos h3, cutB]
  rw [if_neg h3, if_neg hk, cutB]
theorem bx_other (k n : Int) (s : ByteArray) (l : List Itm) (hk : k < 0 ∨ 4 < k) : bxI (.mk k n s l) = .nothing := by
  rw [bxI, if_neg (by omega), if_neg (by omega), if_neg (by omega), if_neg (by omega)]

theorem wI_pos (x : Itm) : 1 ≤ wI x := by
  cases x
  rw [wI]
  omega
theorem wI_zero : wI (.mk 0 0 ⟨#[]⟩ []) = 1 := by
  rw [wI, wIs]
  rfl
theorem sits_zero (S : Nat → Prop) (w : World) : Sits S w (.mk 0 0 ⟨#[]⟩ []) (.agg #[.int .i64 0, .int .u64 0, .string ⟨#[]⟩, .slice none 0 0]) := by
  rw [Sits]
  exact ⟨none, 0, rfl, ⟨Nat.le_refl _, by omega⟩, Or.inl rfl⟩
theorem vI_zero : vI (.mk 0 0 ⟨#[]⟩ []) := by rw [vI]; exact ⟨by omega, fun h => absurd h (by decide)⟩
theorem okI_zero : okI (.mk 0 0 ⟨#[]⟩ []) := by rw [okI, okIs]; exact ⟨by omega, (by show 0 ≤ _; omega), trivial⟩

set_option maxHeartbeats 4000000 in
set_option maxRecDepth 100000 in
theorem cut_step0 (k n : Int) (s : ByteArray) (l : List Itm) (hk : k ≠ 4) : CutOk (.mk k n s l) := by
  intro S v w hs hok hw
  have hs2 := hs
  rw [Sits] at hs2
  obtain ⟨ao, c, hv, hc, hsl⟩ := hs2
  obtain ⟨N, hN⟩ : ∃ N, N = l.length := ⟨_, rfl⟩
  rw [← hN] at hv
  subst hv
  have hk4 : (k == 4) = false := by simpa using hk
  have hk5 : (k != 4) = true := by simpa using hk
  have HC := Lib.hid (cut_plain k n s l hk)
  have HO := Lib.hid (bx_other k n s l)
  have HW := Lib.hid (show wI (.mk 0 0 ⟨#[]⟩ []) ≤ wI (.mk k n s l) by rw [wI_zero]; exact wI_pos _)
  have HV := Lib.hid (show 0 ≤ k ∧ k ≤ 4 → vI (.mk k n s l) from fun h => by rw [vI]; exact ⟨h, fun e => absurd e hk⟩)
  have HS := Lib.hid hs
  have HOK := Lib.hid hok
  have hb0 : Below w.heap.size w ((w.alloc (.cells #[.int .i64 k, .int .u64 n, .string s, .slice ao N c] 25)).alloc (.cells #[.int .i64 0, .int .u64 0, .string ⟨#[]⟩, .slice none 0 0] 25)) := (one_alloc w _).2.alloc (by simp) _
  have HB := Lib.hid hb0
  have hf1 : Four ((w.alloc (.cells #[.int .i64 k, .int .u64 n, .string s, .slice ao N c] 25)).alloc (.cells #[.int .i64 0, .int .u64 0, .string ⟨#[]⟩, .slice none 0 0] 25)) (w.heap.size + 1) 0 0 ⟨#[]⟩ (.slice none 0 0) := by
    have := Four.alloc (w.alloc (.cells #[.int .i64 k, .int .u64 n, .string s, .slice ao N c] 25)) 0 0 ⟨#[]⟩ (.slice none 0 0)
    rw [World.size_alloc] at this
    exact this
  have HF := Lib.hid hf1
  obtain ⟨x, hx⟩ : ∃ x, x = Itm.mk k n s l := ⟨_, rfl⟩
  rw [← hx] at HC HO HW HV HS HOK ⊢
  clear hs hok hw hsl hN hb0 hf1 hk hx
  by_cases hr : k < 0 ∨ 4 < k
  · have HR := Lib.hid (HO.out hr)
    go_enter Tryd.func9, Tryd.ntmps9
    rcases hr with hr | hr
    all_goals
      go_wp2
      refine bodyPost_ret (v := .agg #[.int .i64 0, .int .u64 0, .string ⟨#[]⟩, .slice none 0 0]) (by simp [results, Tryd.results9, go_sem]) rfl ⟨_, .mk 0 0 ⟨#[]⟩ [], rfl, sits_zero _ _, by rw [HC.out, HR.out, bx_zero], vI_zero, okI_zero, HW.out, HB.out⟩
  · have HR := Lib.hid (HV.out (by omega))
    have hr1 : ¬ k < 0 := by omega
    have hr2 : ¬ 4 < k := by omega
    have HB2 : Hid (∀ W, W = (w.alloc (.cells #[.int .i64 k, .int .u64 n, .string s, .slice ao N c] 25)).alloc (.cells #[.int .i64 k, .int .u64 n, .string s, .slice ao N c] 25) → Below w.heap.size w W) := Lib.hid (fun W hW => by rw [hW]; exact (one_alloc w _).2.alloc (by simp) _)
    go_enter Tryd.func9, Tryd.ntmps9
    go_wp2
    refine bodyPost_ret (v := .agg #[.int .i64 k, .int .u64 n, .string s, .slice ao N c]) (by simp [results, Tryd.results9, go_sem]) rfl ⟨_, x, rfl, Sits.mono (HS.out.below (HB2.out _ rfl)) (fun k hk _ => Or.inl hk), by rw [HC.out], HR.out, HOK.out, Nat.le_refl _, HB2.out _ rfl⟩
end Go.Proofs.YtbghemndcndhpaaDoor
