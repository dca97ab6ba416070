/- key's other calls: Check, After, Parting, Inside, Beneath, on any texts of at most 2^47 bytes: what they answer; nothing that was there has turned. -/
import Derived.Test.YtmkglaghnjnooaaDoorKeyRef
import Derived.WalkSmall
namespace Go.Proofs.YtmkglaghnjnooaaDoor
open Go.RowKit

theorem Drew.below {w w' : World} (h : Drew w w') (B : Nat) : Below B w w' := by
  obtain ⟨q, rfl⟩ := h
  exact below_drewN (Below.refl _ _) _

theorem Drew.cell {w w' : World} (h : Drew w w') (p : Addr) : w'.cell? p = w.cell? p := by
  obtain ⟨q, rfl⟩ := h
  rfl

theorem Drew.size {w w' : World} (h : Drew w w') : w'.heap.size = w.heap.size := by
  obtain ⟨q, rfl⟩ := h
  rfl

theorem cmp3_less (a b : List UInt8) : decide (cmp3 a b < 0) = lss a b := by
  rw [Bool.eq_iff_iff, decide_eq_true_eq, cmp3_neg]

theorem boxed_cell (w : World) (v : Value) (t : TypeId) : (w.alloc (.cells #[v] t)).cell? ⟨w.heap.size, 0, none⟩ = some v := by
  rw [World.cell?_alloc_at _ _ _ _ (by simp)]
  rfl

theorem boxed_below (w : World) (o : Obj) : Below w.heap.size w (w.alloc o) := (Below.refl _ _).alloc (Nat.le_refl _) _

theorem check_any (k : ByteArray) (w : World) :
    Calls Tryd.prog 43 #[.string k] w fun e w' => e = .returned (.int .i64 (if k.size = 0 ∨ 64 < k.size then 2 else 0)) ∧ w' = w := by
  by_cases h0 : k.size = 0
  · have e0 : ((k.size : Int) == 0) = true := by rw [h0]; rfl
    rw [if_pos (Or.inl h0)]
    clear h0
    go_enter Tryd.func43, Tryd.ntmps43
    go_wp2
    go_ret
    exact ⟨rfl, rfl⟩
  · have e0 : ((k.size : Int) == 0) = false := by rw [beq_eq_false_iff_ne]; omega
    by_cases h1 : 64 < k.size
    · rw [if_pos (Or.inr h1)]
      have g1 : (64 : Int) < k.size := by omega
      clear h0 h1
      go_enter Tryd.func43, Tryd.ntmps43
      go_wp2
      go_ret
      exact ⟨rfl, rfl⟩
    · rw [if_neg (by omega)]
      have g1 : (k.size : Int) ≤ 64 := by omega
      clear h0 h1
      go_enter Tryd.func43, Tryd.ntmps43
      go_wp2
      go_ret
      exact ⟨rfl, rfl⟩

end Go.Proofs.YtmkglaghnjnooaaDoor
