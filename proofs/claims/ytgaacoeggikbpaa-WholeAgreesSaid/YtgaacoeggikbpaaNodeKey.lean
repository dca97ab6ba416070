/- key's Inside, Beneath, Check, and the document's Inside, on any texts of at most 2^47 bytes: what they answer; nothing that was there has turned. -/
import Derived.Test.YtgaacoeggikbpaaKeyLess
import Derived.WalkSmall
namespace Go.Proofs.Ytgaacoeggikbpaa
open Go.RowKit

/-- In the range. -/
def insideB (low high : List UInt8) (last : Bool) (k : List UInt8) : Bool := !lss k low && (last || lss k high)

def beneathB (low high : List UInt8) (last : Bool) (k : List UInt8) : Bool := lss low k && (last || !lss high k)

theorem Drew.below {w w' : World} (h : Drew w w') (B : Nat) : Below B w w' := by
  obtain ⟨q, rfl⟩ := h
  exact below_drewN (Below.refl _ _) _

theorem Drew.cell {w w' : World} (h : Drew w w') (p : Addr) : w'.cell? p = w.cell? p := by
  obtain ⟨q, rfl⟩ := h
  rfl

theorem Drew.size {w w' : World} (h : Drew w w') : w'.heap.size = w.heap.size := by
  obtain ⟨q, rfl⟩ := h
  rfl

theorem cmp3_less (a b : List UInt8) : decide (cmp3 a b < 0) = lss a b := by
  rw [Bool.eq_iff_iff, decide_eq_true_eq, cmp3_neg]

/-- The closure of lessThan: is x less than the text in its box? -/
theorem lessIn_any (g : Nat) (k x : ByteArray) (w : World) (hk : k.size ≤ 140737488355328) (hx : x.size ≤ 140737488355328) (hc : w.cell? ⟨g, 0, none⟩ = some (.string k)) :
    Calls Try.prog 81 #[.string x, .pointer (some ⟨g, 0, none⟩)] w fun e w' => e = .returned (.bool (lss x.data.toList k.data.toList)) ∧ Drew w w' := by
  have HC := Lib.hid (fun W => compare_any x k W hx hk)
  have HL := Lib.hid (cmp3_less x.data.toList k.data.toList)
  generalize cmp3 x.data.toList k.data.toList = c at *
  go_enter Try.func81, Try.ntmps81
  go_wp2_with fail
  refine (HC.out _).mono ?_
  rintro e w1 ⟨rfl, hd⟩
  go_wp2
  go_ret
  exact ⟨ret_b HL.out, hd⟩

theorem lessThan_any (k : ByteArray) (w : World) :
    Calls Try.prog 76 #[.string k] w fun e w' => e = .returned (.func (.func 81) #[] #[.pointer (some ⟨w.heap.size, 0, none⟩)]) ∧ w' = w.alloc (.cells #[.string k] 9) := by
  go_enter Try.func76, Try.ntmps76
  go_wp2
  go_ret
  exact ⟨rfl, rfl⟩

theorem boxed_cell (w : World) (v : Value) (t : TypeId) : (w.alloc (.cells #[v] t)).cell? ⟨w.heap.size, 0, none⟩ = some v := by
  rw [World.cell?_alloc_at _ _ _ _ (by simp)]
  rfl

theorem boxed_below (w : World) (o : Obj) : Below w.heap.size w (w.alloc o) := (Below.refl _ _).alloc (Nat.le_refl _) _

theorem check_any (k : ByteArray) (w : World) :
    Calls Try.prog 77 #[.string k] w fun e w' => e = .returned (.int .i64 (if k.size = 0 ∨ 64 < k.size then 2 else 0)) ∧ w' = w := by
  by_cases h0 : k.size = 0
  · have e0 : ((k.size : Int) == 0) = true := by rw [h0]; rfl
    rw [if_pos (Or.inl h0)]
    clear h0
    go_enter Try.func77, Try.ntmps77
    go_wp2
    go_ret
    exact ⟨rfl, rfl⟩
  · have e0 : ((k.size : Int) == 0) = false := by rw [beq_eq_false_iff_ne]; omega
    by_cases h1 : 64 < k.size
    · rw [if_pos (Or.inr h1)]
      have g1 : (64 : Int) < k.size := by omega
      clear h0 h1
      go_enter Try.func77, Try.ntmps77
      go_wp2
      go_ret
      exact ⟨rfl, rfl⟩
    · rw [if_neg (by omega)]
      have g1 : (k.size : Int) ≤ 64 := by omega
      clear h0 h1
      go_enter Try.func77, Try.ntmps77
      go_wp2
      go_ret
      exact ⟨rfl, rfl⟩

set_option maxHeartbeats 1000000 in
theorem inside_any (lo hi : ByteArray) (last : Bool) (k : ByteArray) (w : World) (hl : lo.size ≤ 140737488355328) (hh : hi.size ≤ 140737488355328) (hk : k.size ≤ 140737488355328) :
    Calls Try.prog 62 #[.string lo, .string hi, .bool last, .string k] w fun e w' => e = .returned (.bool (insideB lo.data.toList hi.data.toList last k.data.toList)) ∧ Below w.heap.size w w' := by
  have F1 := fun W => Lib.hid (lessThan_any lo W)
  have F2 := fun W => Lib.hid (lessThan_any hi W)
  have L1 := fun g W hc => lessIn_any g lo k W hl hk hc
  have L2 := Lib.hid (fun g W hc => lessIn_any g hi k W hh hk hc)
  unfold insideB
  cases h1 : lss k.data.toList lo.data.toList with
  | true =>
    rw [h1] at L1
    have H1 := Lib.hid L1
    clear h1 L1
    go_enter Try.func62, Try.ntmps62
    go_wp2_with fail
    refine (F1 _).out.mono ?_
    rintro e w1 ⟨rfl, rfl⟩
    go_wp2_with fail
    refine (H1.out w.heap.size _ (boxed_cell _ _ _)).mono ?_
    rintro e w2 ⟨rfl, hd⟩
    go_wp2
    go_ret
    exact ⟨ret_b (by simp), (boxed_below _ _).trans (hd.below _)⟩
  | false =>
    rw [h1] at L1
    have H1 := Lib.hid L1
    clear h1 L1
    cases last with
    | true =>
      go_enter Try.func62, Try.ntmps62
      go_wp2_with fail
      refine (F1 _).out.mono ?_
      rintro e w1 ⟨rfl, rfl⟩
      go_wp2_with fail
      refine (H1.out w.heap.size _ (boxed_cell _ _ _)).mono ?_
      rintro e w2 ⟨rfl, hd⟩
      go_wp2
      go_ret
      exact ⟨ret_b (by simp), (boxed_below _ _).trans (hd.below _)⟩
    | false =>
      generalize lss k.data.toList hi.data.toList = r at *
      go_enter Try.func62, Try.ntmps62
      go_wp2_with fail
      refine (F1 _).out.mono ?_
      rintro e w1 ⟨rfl, rfl⟩
      go_wp2_with fail
      refine (H1.out w.heap.size _ (boxed_cell _ _ _)).mono ?_
      rintro e w2 ⟨rfl, hd⟩
      have hb2 := (boxed_below w (.cells #[.string lo] 9)).trans (hd.below _)
      go_wp2_with fail
      refine (F2 _).out.mono ?_
      rintro e w3 ⟨rfl, rfl⟩
      go_wp2_with fail
      refine (L2.out w2.heap.size _ (boxed_cell _ _ _)).mono ?_
      rintro e w4 ⟨rfl, hd4⟩
      go_wp2
      go_ret
      exact ⟨ret_b (by simp), (hb2.alloc hb2.size _).trans (hd4.below _)⟩

end Go.Proofs.Ytgaacoeggikbpaa
