/- inner.mayBe, and its closure: whether a node is what it was but for its rows, and sound for a fan. Condition: sizes that fit. -/
import Derived.Test.YtjojfkddgdpnlaaInnerBase
namespace Go.Proofs.Ytjojfkddgdpnlaa
open Go.RowKit

theorem check_def (lv nx : Int) (lo hi : ByteArray) (la : Bool) (ak av ac : Option Addr) (nk ck nv cv nc cc : Nat) (ks : List ByteArray) (vs : List Nat) (cs : List Int) (fan : Int) (b : Bool) (w : World) (hN : NdAt w ak av ac nk ck nv cv nc cc ks vs cs) (hf : Fit lo hi ks nk nv nc) (hb : b = true ↔ (4 ≤ fan ∧ fan ≤ 64) ∧ SoundP lv nx lo hi la nk nv nc ks cs fan) :
    ∃ c : Int, (c == 0) = b ∧ ∀ W, Below w.heap.size w W → Calls Try.prog 22 #[.agg #[.int .i64 lv, .string lo, .string hi, .bool la, .int .i64 nx, .slice ak nk ck, .slice av nv cv, .slice ac nc cc], .int .i64 fan] W fun e w' => e = .returned (.int .i64 c) ∧ Below W.heap.size W w' := by
  by_cases h : 4 ≤ fan ∧ fan ≤ 64
  · cases hbb : b with
    | true =>
      refine ⟨0, rfl, fun W hW => (check_fan lv nx lo hi la ak av ac nk ck nv cv nc cc ks vs cs fan h W (hN.keep hW) hf.lo hf.hi hf.ks (by have := hf.n; omega)).mono ?_⟩
      rintro e w' ⟨⟨rfl, hs⟩ | ⟨rfl, hs⟩, hB⟩
      · exact ⟨rfl, hB⟩
      · exact absurd (hb.1 hbb).2 hs
    | false =>
      refine ⟨10, rfl, fun W hW => (check_fan lv nx lo hi la ak av ac nk ck nv cv nc cc ks vs cs fan h W (hN.keep hW) hf.lo hf.hi hf.ks (by have := hf.n; omega)).mono ?_⟩
      rintro e w' ⟨⟨rfl, hs⟩ | ⟨rfl, hs⟩, hB⟩
      · have := hb.2 ⟨h, hs⟩; rw [hbb] at this; cases this
      · exact ⟨rfl, hB⟩
  · have : b = false := bool_no hb (fun g => h g.1)
    subst this
    exact ⟨2, rfl, fun W hW => check_arg lv nx lo hi la ak av ac nk ck nv cv nc cc fan W (by omega)⟩

def FrameB (w : World) (g : Nat) (lv nx : Int) (lo hi : ByteArray) (la : Bool) : Prop := w.heap[g]? = some (.cells #[.int .i64 lv, .int .i64 nx, .string lo, .string hi, .bool la] 135 (0, 0))
theorem FrameB.later {w w' : World} {g : Nat} {lv nx : Int} {lo hi : ByteArray} {la : Bool} (h : FrameB w g lv nx lo hi la) (hb : Below w.heap.size w w') : FrameB w' g lv nx lo hi la := (hb.block _ (lt_of_block h)).trans h
theorem FrameB.cells {w : World} {g : Nat} {lv nx : Int} {lo hi : ByteArray} {la : Bool} (h : FrameB w g lv nx lo hi la) : w.cell? ⟨g, 0, none⟩ = some (.int .i64 lv) ∧ w.cell? ⟨g, 1, none⟩ = some (.int .i64 nx) ∧ w.cell? ⟨g, 2, none⟩ = some (.string lo) ∧ w.cell? ⟨g, 3, none⟩ = some (.string hi) ∧ w.cell? ⟨g, 4, none⟩ = some (.bool la) :=
  ⟨cell_of_heap h, cell_of_heap h, cell_of_heap h, cell_of_heap h, cell_of_heap h⟩
def FanB (w : World) (g : Nat) (fan : Int) : Prop := w.heap[g]? = some (.cells #[.int .i64 fan] 3 (0, 0))
theorem FanB.later {w w' : World} {g : Nat} {fan : Int} (h : FanB w g fan) (hb : Below w.heap.size w w') : FanB w' g fan := (hb.block _ (lt_of_block h)).trans h
theorem FanB.cell {w : World} {g : Nat} {fan : Int} (h : FanB w g fan) : w.cell? ⟨g, 0, none⟩ = some (.int .i64 fan) := cell_of_heap h

set_option maxHeartbeats 4000000 in
set_option maxRecDepth 100000 in
theorem mayIn_of (lv nx : Int) (lo hi : ByteArray) (la : Bool) (ak av ac : Option Addr) (nk ck nv cv nc cc : Nat) (ks : List ByteArray) (vs : List Nat) (cs : List Int) (gF gf : Nat) (lo0 : ByteArray) (fan : Int) (b : Bool) (w : World) (hN : NdAt w ak av ac nk ck nv cv nc cc ks vs cs) (hf : Fit lo hi ks nk nv nc) (hF : FrameB w gF lv nx lo0 hi la) (hG : FanB w gf fan) (hb : b = true ↔ lo = lo0 ∧ (4 ≤ fan ∧ fan ≤ 64) ∧ SoundP lv nx lo hi la nk nv nc ks cs fan) :
    Calls Try.prog 114 #[.agg #[.int .i64 lv, .string lo, .string hi, .bool la, .int .i64 nx, .slice ak nk ck, .slice av nv cv, .slice ac nc cc], .pointer (some ⟨gF, 0, none⟩), .pointer (some ⟨gf, 0, none⟩)] w fun e w' => e = .returned (.bool b) ∧ Below w.heap.size w w' := by
  have HB := Lib.hid (boxed_below w (.cells #[.int .i64 lv, .string lo, .string hi, .bool la, .int .i64 nx, .slice ak nk ck, .slice av nv cv, .slice ac nc cc] 26))
  obtain ⟨w1, hw1⟩ : ∃ w1, w1 = w.alloc (.cells #[.int .i64 lv, .string lo, .string hi, .bool la, .int .i64 nx, .slice ak nk ck, .slice av nv cv, .slice ac nc cc] 26) := ⟨_, rfl⟩
  have n1 : NB w1 w.heap.size #[.int .i64 lv, .string lo, .string hi, .bool la, .int .i64 nx, .slice ak nk ck, .slice av nv cv, .slice ac nc cc] := by rw [hw1]; exact NB.new w #[.int .i64 lv, .string lo, .string hi, .bool la, .int .i64 nx, .slice ak nk ck, .slice av nv cv, .slice ac nc cc]
  rw [← hw1] at HB
  have a0 : ∀ p : Later w1, p.w.cell? ⟨w.heap.size, 0, none⟩ = some (.int .i64 lv) := fun p => (n1.below p.h).cells.1
  have a1 : ∀ p : Later w1, p.w.cell? ⟨w.heap.size, 1, none⟩ = some (.string lo) := fun p => (n1.below p.h).cells.2.1
  have a2 : ∀ p : Later w1, p.w.cell? ⟨w.heap.size, 2, none⟩ = some (.string hi) := fun p => (n1.below p.h).cells.2.2.1
  have a3 : ∀ p : Later w1, p.w.cell? ⟨w.heap.size, 3, none⟩ = some (.bool la) := fun p => (n1.below p.h).cells.2.2.2.1
  have a4 : ∀ p : Later w1, p.w.cell? ⟨w.heap.size, 4, none⟩ = some (.int .i64 nx) := fun p => (n1.below p.h).cells.2.2.2.2.1
  have a5 : ∀ p : Later w1, p.w.cell? ⟨w.heap.size, 5, none⟩ = some (.slice ak nk ck) := fun p => (n1.below p.h).cells.2.2.2.2.2.1
  have a6 : ∀ p : Later w1, p.w.cell? ⟨w.heap.size, 6, none⟩ = some (.slice av nv cv) := fun p => (n1.below p.h).cells.2.2.2.2.2.2.1
  have a7 : ∀ p : Later w1, p.w.cell? ⟨w.heap.size, 7, none⟩ = some (.slice ac nc cc) := fun p => (n1.below p.h).cells.2.2.2.2.2.2.2
  have hF1 := hF.later HB.out
  have hG1 := hG.later HB.out
  have b0 : ∀ p : Later w1, p.w.cell? ⟨gF, 0, none⟩ = some (.int .i64 lv) := fun p => (hF1.later p.h).cells.1
  have b1 : ∀ p : Later w1, p.w.cell? ⟨gF, 1, none⟩ = some (.int .i64 nx) := fun p => (hF1.later p.h).cells.2.1
  have b2 : ∀ p : Later w1, p.w.cell? ⟨gF, 2, none⟩ = some (.string lo0) := fun p => (hF1.later p.h).cells.2.2.1
  have b3 : ∀ p : Later w1, p.w.cell? ⟨gF, 3, none⟩ = some (.string hi) := fun p => (hF1.later p.h).cells.2.2.2.1
  have b4 : ∀ p : Later w1, p.w.cell? ⟨gF, 4, none⟩ = some (.bool la) := fun p => (hF1.later p.h).cells.2.2.2.2
  have d0 : ∀ p : Later w1, p.w.cell? ⟨gf, 0, none⟩ = some (.int .i64 fan) := fun p => (hG1.later p.h).cell
  have HW1 := Lib.hid hw1
  have HF1 := Lib.hid (fun W => iframe_any lv nx lo hi la ak av ac nk ck nv cv nc cc W)
  have HBB := Lib.hid hb
  obtain ⟨sb, hsb⟩ := bool_or ((4 ≤ fan ∧ fan ≤ 64) ∧ SoundP lv nx lo hi la nk nv nc ks cs fan)
  obtain ⟨c, hc0, hcc⟩ := check_def lv nx lo hi la ak av ac nk ck nv cv nc cc ks vs cs fan sb w1 (hN.keep HB.out) hf hsb
  have HC1 := Lib.hid hcc
  have HSB := Lib.hid hsb
  clear n1 hw1 hN hb hF hG hF1 hG1 hf hcc hsb
  by_cases hlo : lo = lo0
  case neg =>
    have z1 := (txt_not hlo).1
    have z2 := (txt_not hlo).2
    have HN : Hid (b = false) := Lib.hid (bool_no HBB.out (fun h => hlo h.1))
    clear hlo hc0
    go_enter Try.func114, Try.ntmps114
    go_wp2
    rw [← HW1.out]
    refine wp_region_later (by kernel_rfl) (by kernel_rfl) ?_
    repeat (quiet_step ((first | (go_at_call 113; (with_reducible exact later_of (HF1.out _))) | (go_at_call 22; (with_reducible exact later_of (HC1.out _ (Later.h _)))))))
    refine wpQuiet_nil ?_
    intro _ hw'
    obtain ⟨⟨wq, hwq⟩, hw''⟩ := hw'
    subst hw''
    go_wp2
    go_ret
    exact ⟨ret_b HN.out.symm, HB.out.trans (hwq.mono HB.out.size)⟩
  case pos =>
    subst hlo
    cases sb with
    | false =>
      have HN : Hid (b = false) := Lib.hid (bool_no HBB.out (fun h => by have := HSB.out.2 h.2; cases this))
      go_enter Try.func114, Try.ntmps114
      go_wp2
      rw [← HW1.out]
      refine wp_region_later (by kernel_rfl) (by kernel_rfl) ?_
      repeat (quiet_step ((first | (go_at_call 113; (with_reducible exact later_of (HF1.out _))) | (go_at_call 22; (with_reducible exact later_of (HC1.out _ (Later.h _)))))))
      refine wpQuiet_nil ?_
      intro _ hw'
      obtain ⟨⟨wq, hwq⟩, hw''⟩ := hw'
      subst hw''
      go_wp2
      go_ret
      exact ⟨ret_b HN.out.symm, HB.out.trans (hwq.mono HB.out.size)⟩
    | true =>
      have HN : Hid (b = true) := Lib.hid (HBB.out.2 ⟨rfl, HSB.out.1 rfl⟩)
      go_enter Try.func114, Try.ntmps114
      go_wp2
      rw [← HW1.out]
      refine wp_region_later (by kernel_rfl) (by kernel_rfl) ?_
      repeat (quiet_step ((first | (go_at_call 113; (with_reducible exact later_of (HF1.out _))) | (go_at_call 22; (with_reducible exact later_of (HC1.out _ (Later.h _)))))))
      refine wpQuiet_nil ?_
      intro _ hw'
      obtain ⟨⟨wq, hwq⟩, hw''⟩ := hw'
      subst hw''
      go_wp2
      go_ret
      exact ⟨ret_b HN.out.symm, HB.out.trans (hwq.mono HB.out.size)⟩

/-- mayBe: the closure, over a box of the frame and one of the fan. -/
theorem mayBe_any (lv nx : Int) (lo hi : ByteArray) (la : Bool) (ak av ac : Option Addr) (nk ck nv cv nc cc : Nat) (fan : Int) (w : World) :
    Calls Try.prog 64 #[.agg #[.int .i64 lv, .string lo, .string hi, .bool la, .int .i64 nx, .slice ak nk ck, .slice av nv cv, .slice ac nc cc], .int .i64 fan] w fun e w' => ∃ gF gf : Nat, e = .returned (.func (.func 114) #[] #[.pointer (some ⟨gF, 0, none⟩), .pointer (some ⟨gf, 0, none⟩)]) ∧ FrameB w' gF lv nx lo hi la ∧ FanB w' gf fan ∧ Below w.heap.size w w' := by
  obtain ⟨wa, hwa⟩ : ∃ wa, wa = w.alloc (.cells #[.int .i64 lv, .string lo, .string hi, .bool la, .int .i64 nx, .slice ak nk ck, .slice av nv cv, .slice ac nc cc] 26) := ⟨_, rfl⟩
  obtain ⟨w1, hw1⟩ : ∃ w1, w1 = wa.alloc (.cells #[.int .i64 fan] 3) := ⟨_, rfl⟩
  have za : wa.heap.size = w.heap.size + 1 := by rw [hwa, World.size_alloc]
  have b1 : Below w.heap.size w wa := by rw [hwa]; exact boxed_below w _
  have b2 : Below wa.heap.size wa w1 := by rw [hw1]; exact boxed_below wa _
  have HNB : Hid (NB w1 w.heap.size #[.int .i64 lv, .string lo, .string hi, .bool la, .int .i64 nx, .slice ak nk ck, .slice av nv cv, .slice ac nc cc]) := Lib.hid (by
    have h : NB wa w.heap.size #[.int .i64 lv, .string lo, .string hi, .bool la, .int .i64 nx, .slice ak nk ck, .slice av nv cv, .slice ac nc cc] := by rw [hwa]; exact NB.new w #[.int .i64 lv, .string lo, .string hi, .bool la, .int .i64 nx, .slice ak nk ck, .slice av nv cv, .slice ac nc cc]
    exact h.below b2)
  have HFB : Hid (FanB w1 (w.heap.size + 1) fan) := Lib.hid (by
    have h := heap_alloc_new wa (.cells #[.int .i64 fan] 3)
    rw [za, ← hw1] at h
    exact h)
  have HB : Hid (Below w.heap.size w w1) := Lib.hid (b1.trans (b2.mono (by omega)))
  have HW1 : Hid (w1 = (w.alloc (.cells #[.int .i64 lv, .string lo, .string hi, .bool la, .int .i64 nx, .slice ak nk ck, .slice av nv cv, .slice ac nc cc] 26)).alloc (.cells #[.int .i64 fan] 3)) := Lib.hid (by rw [hw1, hwa])
  have HF1 := Lib.hid (fun W => iframe_any lv nx lo hi la ak av ac nk ck nv cv nc cc W)
  obtain ⟨q0, q1, q2, q3, q4, q5, q6, q7⟩ := HNB.out.cells
  clear hw1 hwa za b1 b2
  go_enter Try.func64, Try.ntmps64
  go_wp2_with fail
  rw [← HW1.out]
  refine (HF1.out _).mono ?_
  rintro e w2 ⟨rfl, hb2⟩
  have HB2 := Lib.hid hb2
  clear hb2 q0 q1 q2 q3 q4 q5 q6 q7
  go_wp2
  go_ret
  have hbx := boxed_below w2 (.cells #[.int .i64 lv, .int .i64 nx, .string lo, .string hi, .bool la] 135)
  exact ⟨w2.heap.size, w.heap.size + 1, rfl, heap_alloc_new w2 _, (HFB.out.later HB2.out).later hbx, (HB.out.trans (HB2.out.mono HB.out.size)).trans (hbx.mono (Nat.le_trans HB.out.size HB2.out.size))⟩
end Go.Proofs.Ytjojfkddgdpnlaa
