/- inner.mayBe, and its closure: whether a node is what it was but for its rows, and sound for a fan. Condition: sizes that fit. -/
import Derived.Test.YtlcnnnljdffbmaaInnerBase
namespace Go.Proofs.Ytlcnnnljdffbmaa
open Go.RowKit

theorem check_def (lv nx : Int) (lo hi : ByteArray) (la : Bool) (ak av ac : Option Addr) (nk ck nv cv nc cc : Nat) (ks : List ByteArray) (vs : List Nat) (cs : List Int) (fan : Int) (b : Bool) (w : World) (hN : NdAt w ak av ac nk ck nv cv nc cc ks vs cs) (hf : Fit lo hi ks nk nv nc) (hb : b = true ↔ (4 ≤ fan ∧ fan ≤ 64) ∧ SoundP lv nx lo hi la nk nv nc ks cs fan) :
    ∃ c : Int, (c == 0) = b ∧ ∀ W, Below w.heap.size w W → Calls Try.prog 49 #[.agg #[.int .i64 lv, .string lo, .string hi, .bool la, .int .i64 nx, .slice ak nk ck, .slice av nv cv, .slice ac nc cc], .int .i64 fan] W fun e w' => e = .returned (.int .i64 c) ∧ Below W.heap.size W w' := by
  by_cases h : 4 ≤ fan ∧ fan ≤ 64
  · cases hbb : b with
    | true =>
      refine ⟨0, rfl, fun W hW => (check_fan lv nx lo hi la ak av ac nk ck nv cv nc cc ks vs cs fan h W (hN.keep hW) hf.lo hf.hi hf.ks (by have := hf.n; omega)).mono ?_⟩
      rintro e w' ⟨⟨rfl, hs⟩ | ⟨rfl, hs⟩, hB⟩
      · exact ⟨rfl, hB⟩
      · exact absurd (hb.1 hbb).2 hs
    | false =>
      refine ⟨10, rfl, fun W hW => (check_fan lv nx lo hi la ak av ac nk ck nv cv nc cc ks vs cs fan h W (hN.keep hW) hf.lo hf.hi hf.ks (by have := hf.n; omega)).mono ?_⟩
      rintro e w' ⟨⟨rfl, hs⟩ | ⟨rfl, hs⟩, hB⟩
      · have := hb.2 ⟨h, hs⟩; rw [hbb] at this; cases this
      · exact ⟨rfl, hB⟩
  · have : b = false := bool_no hb (fun g => h g.1)
    subst this
    exact ⟨2, rfl, fun W hW => check_arg lv nx lo hi la ak av ac nk ck nv cv nc cc fan W (by omega)⟩

def FanB (w : World) (g : Nat) (fan : Int) : Prop := w.heap[g]? = some (.cells #[.int .i64 fan] 3 (0, 0))
theorem FanB.later {w w' : World} {g : Nat} {fan : Int} (h : FanB w g fan) (hb : Below w.heap.size w w') : FanB w' g fan := (hb.block _ (lt_of_block h)).trans h
theorem FanB.cell {w : World} {g : Nat} {fan : Int} (h : FanB w g fan) : w.cell? ⟨g, 0, none⟩ = some (.int .i64 fan) := cell_of_heap h

end Go.Proofs.Ytlcnnnljdffbmaa
