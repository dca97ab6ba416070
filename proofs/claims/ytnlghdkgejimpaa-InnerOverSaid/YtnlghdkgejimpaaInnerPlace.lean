/- slices.Index exactly, inner.Place. Condition: sizes that fit. -/
import Derived.Test.YtnlghdkgejimpaaInnerOver1
namespace Go.Proofs.Ytnlghdkgejimpaa
open Go.RowKit

/-- a is the first place of v in the row, or -1 where v is nowhere in it. -/
def FirstAt (n : Nat) (zs : List Int) (v a : Int) : Prop := (∃ i : Nat, a = i ∧ i < n ∧ ni zs i = v ∧ ∀ j, j < i → ni zs j ≠ v) ∨ (a = -1 ∧ ∀ j, j < n → ni zs j ≠ v)

set_option maxHeartbeats 1000000 in
set_option maxRecDepth 100000 in
theorem index_at (ao : Option Addr) (n c : Nat) (zs : List Int) (v : Int) (w : World) (hr : Rd w (.slice ao n c) (zs.map (Value.int .i64))) :
    Calls Try.prog 87 #[.slice ao n c, .int .i64 v] w fun e w' => ∃ a : Int, e = .returned (.int .i64 a) ∧ FirstAt n zs v a ∧ w = w' := by
  have HR := Lib.hid hr
  have hl := rd_len hr
  have hl2 := hl.2.1
  have hl3 := hl.2.2
  clear hr hl
  go_enter Try.func87, Try.ntmps87
  go_wp2
  go_loop [8] (fun s => ∃ i : Nat, s = .int .i64 i ∧ i ≤ n ∧ Hid (∀ j, j < i → ni zs j ≠ v)) (fun s => n - (intOf s).toNat)
  case atStart => exact ⟨0, rfl, Nat.zero_le _, Lib.hid (fun j hj => absurd hj (Nat.not_lt_zero _))⟩
  case round =>
    obtain ⟨i, rfl, hi, hall⟩ := hrel
    by_cases hlt : i < n
    · obtain ⟨g, o, rfl, hc⟩ := rd_at HR.out (0 : Int) i hlt
      have hc2 : w.cell? ⟨g, o + i, none⟩ = some (.int .i64 (ni zs i)) := hc i hlt
      have hlt' : (i : Int) < n := by omega
      clear hc
      by_cases he : ni zs i = v
      · have hd : (v == ni zs i) = true := by rw [he]; simp
        have HE : Hid (FirstAt n zs v (i : Int)) := Lib.hid (Or.inl ⟨i, rfl, hlt, he, hall.out⟩)
        clear he
        generalize ni zs i = x at *
        go_wp2
        go_ret
        exact ⟨(i : Int), rfl, HE.out, rfl⟩
      · have hd : (v == ni zs i) = false := beq_eq_false_iff_ne.2 (fun e => he e.symm)
        have HN : Hid (∀ j, j < i + 1 → ni zs j ≠ v) := Lib.hid (fun j hj => by
          by_cases e : j = i
          · subst e; exact he
          · exact hall.out j (by omega))
        clear he
        generalize ni zs i = x at *
        go_wp2
        go_round
        case rel => exact ⟨i + 1, by go_num, by omega, HN⟩
        case measure => simp [intOf]; omega
    · obtain rfl : i = n := by omega
      go_wp2
      go_ret
      exact ⟨-1, rfl, Or.inr ⟨rfl, hall.out⟩, rfl⟩
/-- What inner.Place answers where the first place is a. -/
def placeOf (b : Bool) (a : Int) : Int × Bool := if 0 ≤ a then (if b then (a, true) else (0, false)) else (0, false)
set_option maxHeartbeats 4000000 in
set_option maxRecDepth 100000 in
theorem place_of (lv nx : Int) (lo hi : ByteArray) (la : Bool) (ak av ac : Option Addr) (nk ck nv cv nc cc : Nat) (ks : List ByteArray) (vs : List Nat) (cs : List Int) (kid : Int) (b : Bool) (w : World) (hN : NdAt w ak av ac nk ck nv cv nc cc ks vs cs) (hf : Fit lo hi ks nk nv nc) (hb : b = true ↔ 0 < lv ∧ SoundP lv nx lo hi la nk nv nc ks cs 64) :
    Calls Try.prog 38 #[.agg #[.int .i64 lv, .string lo, .string hi, .bool la, .int .i64 nx, .slice ak nk ck, .slice av nv cv, .slice ac nc cc], .int .i64 kid] w fun e w' => ∃ a, FirstAt nc cs kid a ∧ e = .returned (.tuple #[.int .i64 (placeOf b a).1, .bool (placeOf b a).2]) ∧ Below w.heap.size w w' := by
  have HB := Lib.hid (boxed_below w (.cells #[.int .i64 lv, .string lo, .string hi, .bool la, .int .i64 nx, .slice ak nk ck, .slice av nv cv, .slice ac nc cc] 26))
  have HNB := Lib.hid (NB.new w #[.int .i64 lv, .string lo, .string hi, .bool la, .int .i64 nx, .slice ak nk ck, .slice av nv cv, .slice ac nc cc])
  have HI := Lib.hid (fun W (h : Below w.heap.size w W) => index_at ac nc cc cs kid W (hN.c.keep h))
  have HS := Lib.hid (fun W (h : Below w.heap.size w W) => isInner_of lv nx lo hi la ak av ac nk ck nv cv nc cc ks vs cs b W (hN.keep h) hf hb)
  obtain ⟨w1, hw1⟩ : ∃ w1, w1 = w.alloc (.cells #[.int .i64 lv, .string lo, .string hi, .bool la, .int .i64 nx, .slice ak nk ck, .slice av nv cv, .slice ac nc cc] 26) := ⟨_, rfl⟩
  have HB1 : Hid (Below w.heap.size w w1) := Lib.hid (by rw [hw1]; exact HB.out)
  have HN1 : Hid (NB w1 w.heap.size #[.int .i64 lv, .string lo, .string hi, .bool la, .int .i64 nx, .slice ak nk ck, .slice av nv cv, .slice ac nc cc]) := Lib.hid (by rw [hw1]; exact HNB.out)
  have HW1 := Lib.hid hw1
  obtain ⟨q0, q1, q2, q3, q4, q5, q6, q7⟩ := HN1.out.cells
  clear hN hf hb hw1
  go_enter Try.func38, Try.ntmps38
  go_wp2_with fail
  rw [← HW1.out]
  refine (HI.out _ HB1.out).mono ?_
  rintro e w2 ⟨a, rfl, ha, rfl⟩
  have HA := Lib.hid ha
  by_cases h0 : 0 ≤ a
  · have hlt : (a < 0) = False := by simp; omega
    have HB2 := HB1
    clear ha
    go_wp2_with fail
    refine (HS.out _ HB1.out).mono ?_
    rintro e w3 ⟨rfl, hb3⟩
    have HB3 := Lib.hid (HB1.out.trans (hb3.mono HB1.out.size))
    clear hb3
    cases b with
    | true =>
      go_wp2
      go_ret2
      exact ⟨a, HA.out, by simp [placeOf, h0], HB3.out⟩
    | false =>
      go_wp2
      go_ret2
      exact ⟨a, HA.out, by simp [placeOf, h0], HB3.out⟩
  · have hlt : a < 0 := by omega
    have hq : placeOf b a = (0, false) := if_neg h0
    clear ha
    go_wp2
    go_ret2
    exact ⟨a, HA.out, by rw [hq]; rfl, HB1.out⟩

set_option maxHeartbeats 4000000 in
set_option maxRecDepth 100000 in
/-- node.Kid, where the place is known. -/
theorem kid_yes (lv nx : Int) (lo hi : ByteArray) (la : Bool) (ak av ac : Option Addr) (nk ck nv cv nc cc : Nat) (ks : List ByteArray) (vs : List Nat) (cs : List Int) (k : ByteArray) (j : Nat) (w : World) (hN : NdAt w ak av ac nk ck nv cv nc cc ks vs cs) (h0 : lv ≠ 0) (hj : j < nc) (hk : k.size ≤ 140737488355328) (hx : ∀ x ∈ ks, x.size ≤ 140737488355328) (hn : nk ≤ 274877906944) (hr : Rises ks) (he : ∀ a, Edge ks.length a (pFloor ks k) → a = j + 1) :
    Calls Try.prog 78 #[.agg #[.int .i64 lv, .string lo, .string hi, .bool la, .int .i64 nx, .slice ak nk ck, .slice av nv cv, .slice ac nc cc], .string k] w fun e w' => e = .returned (.tuple #[.int .i64 (ni cs j), .bool true]) ∧ Below w.heap.size w w' := by
  have HB := Lib.hid (boxed_below w (.cells #[.int .i64 lv, .string lo, .string hi, .bool la, .int .i64 nx, .slice ak nk ck, .slice av nv cv, .slice ac nc cc] 26))
  have HNB := Lib.hid (NB.new w #[.int .i64 lv, .string lo, .string hi, .bool la, .int .i64 nx, .slice ak nk ck, .slice av nv cv, .slice ac nc cc])
  have HLN := Lib.hid (rd_len hN.k).1
  have HF : Hid (∀ W, Below w.heap.size w W → Calls Try.prog 109 #[.slice ak nk ck, .string k] W fun e w' => e = .returned (.int .i64 (j : Int)) ∧ Below W.heap.size W w') := Lib.hid (fun W hb => by
    refine (floor_any (.slice ak nk ck) k ks W (hN.k.keep hb) hk hx (by have := HLN.out; omega) hr).mono ?_
    rintro e w' ⟨a, rfl, hE, hB⟩
    have := he a hE
    subst this
    exact ⟨by rw [show ((j + 1 : Nat) : Int) - 1 = (j : Int) by omega], hB⟩)
  have HK := Lib.hid (fun W (hb : Below w.heap.size w W) => kidAt_yes lv nx lo hi la ak av ac nk ck nv cv nc cc j cs W (hN.c.keep hb) h0 hj)
  obtain ⟨w1, hw1⟩ : ∃ w1, w1 = w.alloc (.cells #[.int .i64 lv, .string lo, .string hi, .bool la, .int .i64 nx, .slice ak nk ck, .slice av nv cv, .slice ac nc cc] 26) := ⟨_, rfl⟩
  have HC : Hid (∀ V, Below w1.heap.size w1 V → (V.cell? ⟨w.heap.size, 0, none⟩ = some (.int .i64 lv) ∧ V.cell? ⟨w.heap.size, 1, none⟩ = some (.string lo) ∧ V.cell? ⟨w.heap.size, 2, none⟩ = some (.string hi) ∧ V.cell? ⟨w.heap.size, 3, none⟩ = some (.bool la) ∧ V.cell? ⟨w.heap.size, 4, none⟩ = some (.int .i64 nx) ∧ V.cell? ⟨w.heap.size, 5, none⟩ = some (.slice ak nk ck) ∧ V.cell? ⟨w.heap.size, 6, none⟩ = some (.slice av nv cv) ∧ V.cell? ⟨w.heap.size, 7, none⟩ = some (.slice ac nc cc)) ∧ Below w1.heap.size w1 V) := Lib.hid (fun V hV => ⟨(NB.below (V := w1) (by rw [hw1]; exact HNB.out) hV).cells, hV⟩)
  have HB1 : Hid (Below w.heap.size w w1) := Lib.hid (by rw [hw1]; exact HB.out)
  have HW1 := Lib.hid hw1
  have hS0 := HC.out w1.drew (Below.refl _ _).drew
  clear hN h0 hk hx hn hr hw1 he hj
  go_enter Try.func78, Try.ntmps78
  go_wp2
  rw [← HW1.out]
  first | (go_region_held_law (fun V => (V.cell? ⟨w.heap.size, 0, none⟩ = some (.int .i64 lv) ∧ V.cell? ⟨w.heap.size, 1, none⟩ = some (.string lo) ∧ V.cell? ⟨w.heap.size, 2, none⟩ = some (.string hi) ∧ V.cell? ⟨w.heap.size, 3, none⟩ = some (.bool la) ∧ V.cell? ⟨w.heap.size, 4, none⟩ = some (.int .i64 nx) ∧ V.cell? ⟨w.heap.size, 5, none⟩ = some (.slice ak nk ck) ∧ V.cell? ⟨w.heap.size, 6, none⟩ = some (.slice av nv cv) ∧ V.cell? ⟨w.heap.size, 7, none⟩ = some (.slice ac nc cc)) ∧ Below w1.heap.size w1 V) (first | (with_reducible exact hS0) | exact HC.out _ hA1 | exact HC.out _ hA2 | assumption) (first | (go_at_call 109; refine (HF.out _ (HB1.out.trans ((Below.refl w1.heap.size w1).drew.mono HB1.out.size))).mono ?_; rintro e wa ⟨rfl, hb1⟩; have hA1 := (Below.refl w1.heap.size w1).drew.trans (hb1.mono (Nat.le_refl _))) | (go_at_call 108; refine (HK.out _ (HB1.out.trans (hA1.mono HB1.out.size))).mono ?_; rintro e wb ⟨rfl, hb2⟩; have hA2 := hA1.trans (hb2.mono hA1.size)))) | fail
  all_goals
    go_wp2
    go_ret2
    exact ⟨rfl, HB1.out.trans (hA2.mono HB1.out.size)⟩

end Go.Proofs.Ytnlghdkgejimpaa
