/- A view that is nil, or that no call made: what each call tells. No condition. -/
import Derived.Test.YtdbklklmpnlinaaBoxKit
import Derived.Lib.Hide
import Derived.Deep.RegionHeldLaw
import Derived.Deep.DeepCutAuto
import Derived.Maps.OwnSet
import Derived.WalkSpells
import Derived.Laws.IdiomRangeMap
namespace Go.Proofs.Ytdbklklmpnlinaa
open Go.RowKit Go.Maps

def knownZ : Array Value := #[.int .i64 0, .int .u64 0, .int .u64 0, .int .i64 0, .string ⟨#[]⟩, .string ⟨#[]⟩, .bool false, .int .i64 0, .slice none 0 0, .slice none 0 0, .slice none 0 0]
theorem keyedC : Keyed Try.prog 3 := int_keyed Try.underlying3
theorem zeroKn (w : World) : (zeroValue 43).run Try.prog w = .ok (.agg #[.int .i64 0, .int .u64 0, .int .u64 0, .int .i64 0, .string ⟨#[]⟩, .string ⟨#[]⟩, .bool false, .int .i64 0, .slice none 0 0, .slice none 0 0, .slice none 0 0]) w := by kernel_rfl

/-- A view that is nil, or that no call made. -/
def NotMade (w : World) (v : Value) : Prop := v = .pointer none ∨ ∃ A, v = .pointer (some ⟨A, 0, none⟩) ∧ BX w A 130 #[.map none, .slice none 0 0, .int .i64 0, .int .i64 0]
theorem NotMade.keep {w w' : World} {v : Value} (h : NotMade w v) (hb : Below w.heap.size w w') : NotMade w' v := by
  rcases h with rfl | ⟨A, rfl, h⟩
  · exact Or.inl rfl
  · exact Or.inr ⟨A, rfl, h.below hb⟩
theorem NotMade.ptr {w : World} {v : Value} (h : NotMade w v) : ∃ a, v = .pointer a := by
  rcases h with rfl | ⟨A, rfl, _⟩
  · exact ⟨_, rfl⟩
  · exact ⟨_, rfl⟩

theorem isMade_no (v : Value) (w : World) (h : NotMade w v) : Calls Try.prog 72 #[v] w fun e w' => e = .returned (.bool false) ∧ w = w' := by
  have qT : ∀ (w : World) (r : Option Nat), (binOp .neq 128 (.map r) (.map none)).run Try.prog w = .ok (.bool (!r.isNone)) w := fun w r => run_neq_map_nil w _ _ _ r Try.underlying128
  rcases h with rfl | ⟨A, rfl, h⟩
  · go_enter Try.func72, Try.ntmps72
    go_wp2
    go_ret
    exact ⟨rfl, rfl⟩
  · have c0 : w.cell? ⟨A, 0, none⟩ = some (.map none) := h.cell 0 rfl
    clear h
    go_enter Try.func72, Try.ntmps72
    go_wp2
    go_ret
    exact ⟨rfl, rfl⟩
theorem isMade_yes (A b : Nat) (s : Value) (k m : Int) (w : World) (h : BX w A 130 #[.map (some b), s, .int .i64 k, .int .i64 m]) : Calls Try.prog 72 #[.pointer (some ⟨A, 0, none⟩)] w fun e w' => e = .returned (.bool true) ∧ w = w' := by
  have qT : ∀ (w : World) (r : Option Nat), (binOp .neq 128 (.map r) (.map none)).run Try.prog w = .ok (.bool (!r.isNone)) w := fun w r => run_neq_map_nil w _ _ _ r Try.underlying128
  have c0 : w.cell? ⟨A, 0, none⟩ = some (.map (some b)) := h.cell 0 rfl
  clear h
  go_enter Try.func72, Try.ntmps72
  go_wp2
  go_ret
  exact ⟨rfl, rfl⟩
theorem fcell_any (c : Int) (w : World) : Calls Try.prog 73 #[.int .i64 c] w fun e w' => e = .returned (.bool (cellB c)) ∧ w = w' := by
  by_cases h1 : 0 ≤ c
  · by_cases h2 : c < 8192
    · rw [show cellB c = true by unfold cellB; rw [decide_eq_true_iff]; omega]
      go_enter Try.func73, Try.ntmps73
      go_wp2
      go_ret
      exact ⟨rfl, rfl⟩
    · rw [show cellB c = false by unfold cellB; rw [decide_eq_false_iff_not]; omega]
      go_enter Try.func73, Try.ntmps73
      go_wp2
      go_ret
      exact ⟨rfl, rfl⟩
  · rw [show cellB c = false by unfold cellB; rw [decide_eq_false_iff_not]; omega]
    go_enter Try.func73, Try.ntmps73
    go_wp2
    go_ret
    exact ⟨rfl, rfl⟩

set_option maxHeartbeats 1000000 in
theorem lack_no (v : Value) (b : Bool) (k m : Int) (w : World) (h : NotMade w v) : Calls Try.prog 83 #[v, .bool b, .agg #[.int .i64 k, .int .i64 m]] w fun e w' => e = .returned (.tuple #[]) ∧ Below w.heap.size w w' := by
  have hx := boxed_below w (.cells #[.int .i64 k, .int .i64 m] 47)
  obtain ⟨W1, hW1⟩ : ∃ W, W = w.alloc (.cells #[.int .i64 k, .int .i64 m] 47) := ⟨_, rfl⟩
  rw [← hW1] at hx
  have HI := Lib.hid (isMade_no v W1 (h.keep hx))
  have HX := Lib.hid hx
  have HW := Lib.hid hW1
  clear h hx hW1
  go_enter Try.func83, Try.ntmps83
  go_upto_region 1 with fail
  rw [← HW.out]
  clear HW
  go_wp2_with fail
  refine HI.out.mono ?_
  rintro e w2 ⟨rfl, h2⟩
  rw [← h2]
  clear h2
  go_wp2
  refine bodyPost_ret (v := .tuple #[]) (by simp [results, Try.results83, go_sem]) rfl ?_
  exact ⟨rfl, HX.out⟩
theorem giveUp_no (v : Value) (w : World) (h : NotMade w v) : Calls Try.prog 76 #[v] w fun e w' => e = .returned (.tuple #[]) ∧ Below w.heap.size w w' := by
  have HI := Lib.hid (lack_no v false 0 0 w h)
  clear h
  go_enter Try.func76, Try.ntmps76
  go_wp2_with fail
  refine HI.out.mono ?_
  rintro e w2 ⟨rfl, h2⟩
  have HB := Lib.hid h2
  clear h2
  go_wp2
  go_end0
  exact ⟨rfl, HB.out⟩
theorem known_no (v : Value) (w : World) (h : NotMade w v) : Calls Try.prog 82 #[v] w fun e w' => e = .returned (.map none) ∧ w = w' := by
  have HI := Lib.hid (isMade_no v w h)
  clear h
  go_enter Try.func82, Try.ntmps82
  go_wp2_with fail
  refine HI.out.mono ?_
  rintro e w2 ⟨rfl, rfl⟩
  go_wp2
  go_ret
  exact ⟨rfl, rfl⟩
theorem spares_no (v : Value) (w : World) (h : NotMade w v) : Calls Try.prog 84 #[v] w fun e w' => e = .returned (.int .i64 0) ∧ w = w' := by
  have HI := Lib.hid (isMade_no v w h)
  clear h
  go_enter Try.func84, Try.ntmps84
  go_wp2_with fail
  refine HI.out.mono ?_
  rintro e w2 ⟨rfl, rfl⟩
  go_wp2
  go_ret
  exact ⟨rfl, rfl⟩
set_option maxHeartbeats 1000000 in
theorem spare_no (v : Value) (k m : Int) (w : World) (h : NotMade w v) : Calls Try.prog 40 #[v, .agg #[.int .i64 k, .int .u64 m]] w fun e w' => e = .returned (.bool false) ∧ Below w.heap.size w w' := by
  have hx := boxed_below w (.cells #[.int .i64 k, .int .u64 m] 51)
  obtain ⟨W1, hW1⟩ : ∃ W, W = w.alloc (.cells #[.int .i64 k, .int .u64 m] 51) := ⟨_, rfl⟩
  rw [← hW1] at hx
  have HI := Lib.hid (isMade_no v W1 (h.keep hx))
  have HX := Lib.hid hx
  have HW := Lib.hid hW1
  clear h hx hW1
  go_enter Try.func40, Try.ntmps40
  go_upto_region 1 with fail
  rw [← HW.out]
  clear HW
  go_wp2_with fail
  refine HI.out.mono ?_
  rintro e w2 ⟨rfl, h2⟩
  rw [← h2]
  clear h2
  go_wp2
  go_ret
  exact ⟨rfl, HX.out⟩
set_option maxHeartbeats 1000000 in
theorem learn_no (v : Value) (cs : Array Value) (w : World) (h : NotMade w v) : Calls Try.prog 70 #[v, .agg cs] w fun e w' => e = .returned (.bool false) ∧ Below w.heap.size w w' := by
  have hx := boxed_below w (.cells cs 43)
  obtain ⟨W1, hW1⟩ : ∃ W, W = w.alloc (.cells cs 43) := ⟨_, rfl⟩
  rw [← hW1] at hx
  have HI := Lib.hid (isMade_no v W1 (h.keep hx))
  have HX := Lib.hid hx
  have HW := Lib.hid hW1
  clear h hx hW1
  go_enter Try.func70, Try.ntmps70
  go_upto_region 1 with fail
  rw [← HW.out]
  clear HW
  go_wp2_with fail
  refine HI.out.mono ?_
  rintro e w2 ⟨rfl, h2⟩
  rw [← h2]
  clear h2
  go_wp2
  go_ret
  exact ⟨rfl, HX.out⟩
end Go.Proofs.Ytdbklklmpnlinaa
