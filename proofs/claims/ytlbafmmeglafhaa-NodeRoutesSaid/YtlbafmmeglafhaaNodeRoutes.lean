/- The law NodeRoutes, walked: a sound inner node that covers a text has a kid for it, and, if texts lie right below it there, one for these. Condition: the node's rows are there. -/
import Derived.Test.YtlbafmmeglafhaaNodeChecks
namespace Go.Proofs.Ytlbafmmeglafhaa
open Go.RowKit

/-- What Kid and KidBelow tell of a node whose first key is below: there is one. -/
def KidDone (w w' : World) (e : Ending) (nk : Nat) (below : Bool) : Prop := ∃ (x : Int) (b : Bool), e = .returned (.tuple #[.int .i64 x, .bool b]) ∧ (0 < nk → below = true → b = true) ∧ Below w.heap.size w w'

theorem kidAt_any (lv nx : Int) (lo hi : ByteArray) (la : Bool) (ak av ac : Option Addr) (nk ck nv cv nc cc : Nat) (t : Int) (cs : List Int) (w : World) (hr : Rd w (.slice ac nc cc) (cs.map (Value.int .i64))) (h : lv ≠ 0) :
    Calls Try.prog 60 #[.agg #[.int .i64 lv, .string lo, .string hi, .bool la, .int .i64 nx, .slice ak nk ck, .slice av nv cv, .slice ac nc cc], .int .i64 t] w fun e w' => ∃ (x : Int), e = .returned (.tuple #[.int .i64 x, .bool (decide (0 ≤ t ∧ t < nc))]) ∧ Below w.heap.size w w' := by
  by_cases ht : 0 ≤ t ∧ t < nc
  · obtain ⟨j, rfl⟩ : ∃ j : Nat, t = j := ⟨t.toNat, by omega⟩
    refine (kidAt_yes lv nx lo hi la ak av ac nk ck nv cv nc cc j cs w hr h (by omega)).mono ?_
    rintro e w' ⟨rfl, hb⟩
    exact ⟨_, by rw [decide_eq_true ht], hb⟩
  · refine (kidAt_no lv nx lo hi la ak av ac nk ck nv cv nc cc t w (by omega)).mono ?_
    rintro e w' ⟨rfl, hb⟩
    exact ⟨_, by rw [decide_eq_false ht], hb⟩

theorem floor_first {ks : List ByteArray} {k : ByteArray} {a : Nat} (h : Edge ks.length a (pFloor ks k)) (hn : 0 < ks.length) (hb : lss k.data.toList (nth ks 0).data.toList = false) : 0 < a := by
  by_cases e : a = 0
  · have := h.2.2 0 (by omega) hn
    unfold pFloor at this
    rw [hb] at this; cases this
  · omega
theorem below_first {ks : List ByteArray} {k : ByteArray} {a : Nat} (h : Edge ks.length a (pFind ks k)) (hn : 0 < ks.length) (hb : lss (nth ks 0).data.toList k.data.toList = true) : 0 < a := by
  by_cases e : a = 0
  · have := h.2.2 0 (by omega) hn
    unfold pFind at this
    rw [hb] at this; cases this
  · omega

set_option maxHeartbeats 4000000 in
set_option maxRecDepth 100000 in
theorem kid_any (lv nx : Int) (lo hi : ByteArray) (la : Bool) (ak av ac : Option Addr) (nk ck nv cv nc cc : Nat) (ks : List ByteArray) (vs : List Nat) (cs : List Int) (k : ByteArray) (w : World) (hN : NdAt w ak av ac nk ck nv cv nc cc ks vs cs) (h0 : lv ≠ 0) (hnc : nc = nk) (hk : k.size ≤ 140737488355328) (hx : ∀ x ∈ ks, x.size ≤ 140737488355328) (hn : nk ≤ 274877906944) (hr : Rises ks) :
    Calls Try.prog 31 #[.agg #[.int .i64 lv, .string lo, .string hi, .bool la, .int .i64 nx, .slice ak nk ck, .slice av nv cv, .slice ac nc cc], .string k] w fun e w' => KidDone w w' e nk (!lss k.data.toList (nth ks 0).data.toList) := by
  have HB := Lib.hid (boxed_below w (.cells #[.int .i64 lv, .string lo, .string hi, .bool la, .int .i64 nx, .slice ak nk ck, .slice av nv cv, .slice ac nc cc] 62))
  have HNB := Lib.hid (NB.new w #[.int .i64 lv, .string lo, .string hi, .bool la, .int .i64 nx, .slice ak nk ck, .slice av nv cv, .slice ac nc cc])
  have HLN := Lib.hid (rd_len hN.k).1
  have HF := Lib.hid (fun W (hb : Below w.heap.size w W) => floor_any (.slice ak nk ck) k ks W (hN.k.keep hb) hk hx (by have := HLN.out; omega) hr)
  have HK := Lib.hid (fun t W (hb : Below w.heap.size w W) => kidAt_any lv nx lo hi la ak av ac nk ck nv cv nc cc t cs W (hN.c.keep hb) h0)
  have HNC := Lib.hid hnc
  obtain ⟨w1, hw1⟩ : ∃ w1, w1 = w.alloc (.cells #[.int .i64 lv, .string lo, .string hi, .bool la, .int .i64 nx, .slice ak nk ck, .slice av nv cv, .slice ac nc cc] 62) := ⟨_, rfl⟩
  have HC : Hid (∀ V, Below w1.heap.size w1 V → (V.cell? ⟨w.heap.size, 0, none⟩ = some (.int .i64 lv) ∧ V.cell? ⟨w.heap.size, 1, none⟩ = some (.string lo) ∧ V.cell? ⟨w.heap.size, 2, none⟩ = some (.string hi) ∧ V.cell? ⟨w.heap.size, 3, none⟩ = some (.bool la) ∧ V.cell? ⟨w.heap.size, 4, none⟩ = some (.int .i64 nx) ∧ V.cell? ⟨w.heap.size, 5, none⟩ = some (.slice ak nk ck) ∧ V.cell? ⟨w.heap.size, 6, none⟩ = some (.slice av nv cv) ∧ V.cell? ⟨w.heap.size, 7, none⟩ = some (.slice ac nc cc)) ∧ Below w1.heap.size w1 V) := Lib.hid (fun V hV => ⟨(NB.below (V := w1) (by rw [hw1]; exact HNB.out) hV).cells, hV⟩)
  have HB1 : Hid (Below w.heap.size w w1) := Lib.hid (by rw [hw1]; exact HB.out)
  have HW1 := Lib.hid hw1
  have hS0 := HC.out w1.drew (Below.refl _ _).drew
  clear hN h0 hk hx hn hr hnc hw1
  go_enter Try.func31, Try.ntmps31
  go_wp2
  rw [← HW1.out]
  first | (go_region_held_law (fun V => (V.cell? ⟨w.heap.size, 0, none⟩ = some (.int .i64 lv) ∧ V.cell? ⟨w.heap.size, 1, none⟩ = some (.string lo) ∧ V.cell? ⟨w.heap.size, 2, none⟩ = some (.string hi) ∧ V.cell? ⟨w.heap.size, 3, none⟩ = some (.bool la) ∧ V.cell? ⟨w.heap.size, 4, none⟩ = some (.int .i64 nx) ∧ V.cell? ⟨w.heap.size, 5, none⟩ = some (.slice ak nk ck) ∧ V.cell? ⟨w.heap.size, 6, none⟩ = some (.slice av nv cv) ∧ V.cell? ⟨w.heap.size, 7, none⟩ = some (.slice ac nc cc)) ∧ Below w1.heap.size w1 V) (first | (with_reducible exact hS0) | exact HC.out _ hA1 | exact HC.out _ hA2 | assumption) (first | (go_at_call 61; refine (HF.out _ (HB1.out.trans ((Below.refl w1.heap.size w1).drew.mono HB1.out.size))).mono ?_; rintro e wa ⟨a1, rfl, hE1, hb1⟩; have hA1 := (Below.refl w1.heap.size w1).drew.trans (hb1.mono (Nat.le_refl _))) | (go_at_call 60; refine (HK.out _ _ (HB1.out.trans (hA1.mono HB1.out.size))).mono ?_; rintro e wb ⟨x1, rfl, hb2⟩; have hA2 := hA1.trans (hb2.mono hA1.size)))) | fail
  all_goals
    go_wp2
    go_ret2
    refine ⟨x1, _, rfl, fun hn hb => ?_, HB1.out.trans (hA2.mono HB1.out.size)⟩
    have h1 := floor_first hE1 (by have := HLN.out; omega) (by simpa using hb)
    have h2 := hE1.1
    have h3 := HLN.out
    have h4 := HNC.out
    simp
    omega

set_option maxHeartbeats 4000000 in
set_option maxRecDepth 100000 in
theorem kidBelow_any (lv nx : Int) (lo hi : ByteArray) (la : Bool) (ak av ac : Option Addr) (nk ck nv cv nc cc : Nat) (ks : List ByteArray) (vs : List Nat) (cs : List Int) (k : ByteArray) (w : World) (hN : NdAt w ak av ac nk ck nv cv nc cc ks vs cs) (h0 : lv ≠ 0) (hnc : nc = nk) (hk : k.size ≤ 140737488355328) (hx : ∀ x ∈ ks, x.size ≤ 140737488355328) (hn : nk ≤ 274877906944) (hr : Rises ks) :
    Calls Try.prog 32 #[.agg #[.int .i64 lv, .string lo, .string hi, .bool la, .int .i64 nx, .slice ak nk ck, .slice av nv cv, .slice ac nc cc], .string k] w fun e w' => KidDone w w' e nk (lss (nth ks 0).data.toList k.data.toList) := by
  have HB := Lib.hid (boxed_below w (.cells #[.int .i64 lv, .string lo, .string hi, .bool la, .int .i64 nx, .slice ak nk ck, .slice av nv cv, .slice ac nc cc] 62))
  have HNB := Lib.hid (NB.new w #[.int .i64 lv, .string lo, .string hi, .bool la, .int .i64 nx, .slice ak nk ck, .slice av nv cv, .slice ac nc cc])
  have HLN := Lib.hid (rd_len hN.k).1
  have HF := Lib.hid (fun W (hb : Below w.heap.size w W) => below_any (.slice ak nk ck) k ks W (hN.k.keep hb) hk hx (by have := HLN.out; omega) hr)
  have HK := Lib.hid (fun t W (hb : Below w.heap.size w W) => kidAt_any lv nx lo hi la ak av ac nk ck nv cv nc cc t cs W (hN.c.keep hb) h0)
  have HNC := Lib.hid hnc
  obtain ⟨w1, hw1⟩ : ∃ w1, w1 = w.alloc (.cells #[.int .i64 lv, .string lo, .string hi, .bool la, .int .i64 nx, .slice ak nk ck, .slice av nv cv, .slice ac nc cc] 62) := ⟨_, rfl⟩
  have HC : Hid (∀ V, Below w1.heap.size w1 V → (V.cell? ⟨w.heap.size, 0, none⟩ = some (.int .i64 lv) ∧ V.cell? ⟨w.heap.size, 1, none⟩ = some (.string lo) ∧ V.cell? ⟨w.heap.size, 2, none⟩ = some (.string hi) ∧ V.cell? ⟨w.heap.size, 3, none⟩ = some (.bool la) ∧ V.cell? ⟨w.heap.size, 4, none⟩ = some (.int .i64 nx) ∧ V.cell? ⟨w.heap.size, 5, none⟩ = some (.slice ak nk ck) ∧ V.cell? ⟨w.heap.size, 6, none⟩ = some (.slice av nv cv) ∧ V.cell? ⟨w.heap.size, 7, none⟩ = some (.slice ac nc cc)) ∧ Below w1.heap.size w1 V) := Lib.hid (fun V hV => ⟨(NB.below (V := w1) (by rw [hw1]; exact HNB.out) hV).cells, hV⟩)
  have HB1 : Hid (Below w.heap.size w w1) := Lib.hid (by rw [hw1]; exact HB.out)
  have HW1 := Lib.hid hw1
  have hS0 := HC.out w1.drew (Below.refl _ _).drew
  clear hN h0 hk hx hn hr hnc hw1
  go_enter Try.func32, Try.ntmps32
  go_wp2
  rw [← HW1.out]
  first | (go_region_held_law (fun V => (V.cell? ⟨w.heap.size, 0, none⟩ = some (.int .i64 lv) ∧ V.cell? ⟨w.heap.size, 1, none⟩ = some (.string lo) ∧ V.cell? ⟨w.heap.size, 2, none⟩ = some (.string hi) ∧ V.cell? ⟨w.heap.size, 3, none⟩ = some (.bool la) ∧ V.cell? ⟨w.heap.size, 4, none⟩ = some (.int .i64 nx) ∧ V.cell? ⟨w.heap.size, 5, none⟩ = some (.slice ak nk ck) ∧ V.cell? ⟨w.heap.size, 6, none⟩ = some (.slice av nv cv) ∧ V.cell? ⟨w.heap.size, 7, none⟩ = some (.slice ac nc cc)) ∧ Below w1.heap.size w1 V) (first | (with_reducible exact hS0) | exact HC.out _ hA1 | exact HC.out _ hA2 | assumption) (first | (go_at_call 62; refine (HF.out _ (HB1.out.trans ((Below.refl w1.heap.size w1).drew.mono HB1.out.size))).mono ?_; rintro e wa ⟨a1, rfl, hE1, hb1⟩; have hA1 := (Below.refl w1.heap.size w1).drew.trans (hb1.mono (Nat.le_refl _))) | (go_at_call 60; refine (HK.out _ _ (HB1.out.trans (hA1.mono HB1.out.size))).mono ?_; rintro e wb ⟨x1, rfl, hb2⟩; have hA2 := hA1.trans (hb2.mono hA1.size)))) | fail
  all_goals
    go_wp2
    go_ret2
    refine ⟨x1, _, rfl, fun hn hb => ?_, HB1.out.trans (hA2.mono HB1.out.size)⟩
    have h1 := below_first hE1 (by have := HLN.out; omega) hb
    have h2 := hE1.1
    have h3 := HLN.out
    have h4 := HNC.out
    simp
    omega

set_option maxHeartbeats 8000000 in
set_option maxRecDepth 100000 in
theorem routes_any (lv nx : Int) (lo hi : ByteArray) (la : Bool) (ak av ac : Option Addr) (nk ck nv cv nc cc : Nat) (ks : List ByteArray) (vs : List Nat) (cs : List Int) (k : ByteArray) (w : World) (hN : NdAt w ak av ac nk ck nv cv nc cc ks vs cs) :
    Calls Try.prog 6 #[.agg #[.int .i64 lv, .string lo, .string hi, .bool la, .int .i64 nx, .slice ak nk ck, .slice av nv cv, .slice ac nc cc], .string k] w fun e w' => e = .returned (.bool true) ∧ Below w.heap.size w w' := by
  have HB := Lib.hid (boxed_below w (.cells #[.int .i64 lv, .string lo, .string hi, .bool la, .int .i64 nx, .slice ak nk ck, .slice av nv cv, .slice ac nc cc] 62))
  have HNB := Lib.hid (NB.new w #[.int .i64 lv, .string lo, .string hi, .bool la, .int .i64 nx, .slice ak nk ck, .slice av nv cv, .slice ac nc cc])
  have HL := Lib.hid (fun W (hb : Below w.heap.size w W) => nlight_any lv nx lo hi la ak av ac nk ck nv cv nc cc ks W (hN.keep hb).k (by have := rd_len hN.v; omega) (by have := rd_len hN.c; omega))
  have HND := Lib.hid hN
  have HKL := Lib.hid (rd_len hN.k).1
  have HLV := Lib.hid (fun W => lives10_any W)
  obtain ⟨q0, q1, q2, q3, q4, q5, q6, q7⟩ := HNB.out.cells
  clear hN
  go_enter Try.func6, Try.ntmps6
  go_wp2_with fail
  refine (HL.out _ HB.out).mono ?_
  rintro e w2 ⟨r, rfl, hr, hb2⟩
  have HP := Lib.hid hr
  have HB2 := Lib.hid (HB.out.trans (hb2.mono HB.out.size))
  have HN2 := Lib.hid (HNB.out.below hb2)
  clear hr hb2 q0 q1 q2 q3 q4 q5 q6 q7
  cases r with
  | false =>
    go_wp2_with fail
    refine (HLV.out _).mono ?_
    rintro e w3 ⟨rfl, hb3⟩
    have HB3 := Lib.hid (HB2.out.trans (hb3.mono HB2.out.size))
    clear hb3
    go_wp2
    go_ret
    exact ⟨rfl, HB3.out⟩
  | true =>
    have HT := Lib.hid (light_texts (HP.out.1 rfl) HKL.out)
    obtain ⟨q0, q1, q2, q3, q4, q5, q6, q7⟩ := HN2.out.cells
    by_cases hk : 100 < k.size
    · have hk' : (100 : Int) < k.size := by omega
      go_wp2_with fail
      refine (HLV.out _).mono ?_
      rintro e w3 ⟨rfl, hb3⟩
      have HB3 := Lib.hid (HB2.out.trans (hb3.mono HB2.out.size))
      clear hb3
      go_wp2
      go_ret
      exact ⟨rfl, HB3.out⟩
    have hk' : ¬ (100 : Int) < k.size := by omega
    have HKS : Hid (k.size ≤ 140737488355328) := Lib.hid (by omega)
    clear hk
    have HC := Lib.hid (fun W (hb : Below w.heap.size w W) => check_fan lv nx lo hi la ak av ac nk ck nv cv nc cc ks vs cs 64 (by omega) W (HND.out.keep hb) HT.out.1 HT.out.2.1 HT.out.2.2.1 HT.out.2.2.2)
    go_wp2_with fail
    refine (HC.out _ HB2.out).mono ?_
    rintro e w3 ⟨⟨rfl, hs⟩ | ⟨rfl, hs⟩, hb3⟩
    case inr =>
      have HB3 := Lib.hid (HB2.out.trans (hb3.mono HB2.out.size))
      clear hb3 hs
      go_wp2_with fail
      refine (HLV.out _).mono ?_
      rintro e w4 ⟨rfl, hb4⟩
      have HB4 := Lib.hid (HB3.out.trans (hb4.mono HB3.out.size))
      clear hb4
      go_wp2
      go_ret
      exact ⟨rfl, HB4.out⟩
    case inl =>
      have HB3 := Lib.hid (HB2.out.trans (hb3.mono HB2.out.size))
      have HN3 := Lib.hid (HN2.out.below hb3)
      have HS := Lib.hid hs
      clear hb3 hs q0 q1 q2 q3 q4 q5 q6 q7
      obtain ⟨q0, q1, q2, q3, q4, q5, q6, q7⟩ := HN3.out.cells
      by_cases h0 : lv = 0
      · have g0 : (lv == 0) = true := by rw [h0]; rfl
        clear h0
        go_wp2_with fail
        refine (HLV.out _).mono ?_
        rintro e w4 ⟨rfl, hb4⟩
        have HB4 := Lib.hid (HB3.out.trans (hb4.mono HB3.out.size))
        clear hb4
        go_wp2
        go_ret
        exact ⟨rfl, HB4.out⟩
      have g0 : (lv == 0) = false := by simpa using h0
      have hin := HS.out.entries.inner h0
      have HK1 := Lib.hid (fun W (hb : Below w.heap.size w W) => kid_any lv nx lo hi la ak av ac nk ck nv cv nc cc ks vs cs k W (HND.out.keep hb) h0 hin.1 HKS.out HT.out.2.2.1 HT.out.2.2.2 HS.out.keys.rise)
      have HK2 := Lib.hid (fun W (hb : Below w.heap.size w W) => kidBelow_any lv nx lo hi la ak av ac nk ck nv cv nc cc ks vs cs k W (HND.out.keep hb) h0 hin.1 HKS.out HT.out.2.2.1 HT.out.2.2.2 HS.out.keys.rise)
      rw [hin.2.2.2.1] at HK1 HK2
      have HPOS : Hid (0 < nk) := Lib.hid (by omega)
      have HCV := Lib.hid (fun W => covers_any lv nx lo hi la ak av ac nk ck nv cv nc cc k W HT.out.1 HT.out.2.1 HKS.out)
      have HBN := Lib.hid (fun W => nbeneath_any lv nx lo hi la ak av ac nk ck nv cv nc cc k W HT.out.1 HT.out.2.1 HKS.out)
      have HI1 : Hid (insideB lo.data.toList hi.data.toList la k.data.toList = true → (!lss k.data.toList lo.data.toList) = true) := Lib.hid (fun h => by
        unfold insideB at h
        rw [Bool.and_eq_true] at h
        exact h.1)
      have HI2 : Hid (beneathB lo.data.toList hi.data.toList la k.data.toList = true → lss lo.data.toList k.data.toList = true) := Lib.hid (fun h => by
        unfold beneathB at h
        rw [Bool.and_eq_true] at h
        exact h.1)
      clear h0 hin
      generalize insideB lo.data.toList hi.data.toList la k.data.toList = ib at *
      generalize beneathB lo.data.toList hi.data.toList la k.data.toList = bb at *
      generalize (!lss k.data.toList lo.data.toList) = p1 at *
      generalize lss lo.data.toList k.data.toList = p2 at *
      go_wp2_with fail
      refine (HK1.out _ HB3.out).mono ?_
      rintro e w4 ⟨x, a, rfl, ha, hb4⟩
      have HA := Lib.hid ha
      have HB4 := Lib.hid (HB3.out.trans (hb4.mono HB3.out.size))
      have HN4 := Lib.hid (HN3.out.below hb4)
      clear ha hb4 q0 q1 q2 q3 q4 q5 q6 q7
      obtain ⟨q0, q1, q2, q3, q4, q5, q6, q7⟩ := HN4.out.cells
      go_wp2_with fail
      refine (HK2.out _ HB4.out).mono ?_
      rintro e w5 ⟨y, b, rfl, hbb, hb5⟩
      have HBB := Lib.hid hbb
      have HB5 := Lib.hid (HB4.out.trans (hb5.mono HB4.out.size))
      have HN5 := Lib.hid (HN4.out.below hb5)
      clear hbb hb5 q0 q1 q2 q3 q4 q5 q6 q7
      obtain ⟨q0, q1, q2, q3, q4, q5, q6, q7⟩ := HN5.out.cells
      cases a with
      | true =>
        cases b with
        | true =>
          go_wp2_with fail
          refine (HLV.out _).mono ?_
          rintro e w8 ⟨rfl, hb8⟩
          have HB8 := Lib.hid (HB5.out.trans (hb8.mono HB5.out.size))
          clear hb8
          go_wp2
          go_ret
          exact ⟨rfl, HB8.out⟩
        | false =>
          have hbf : bb = false := by
            cases bb with
            | false => rfl
            | true => have := HBB.out HPOS.out (HI2.out (by trivial)); cases this
          subst hbf
          go_wp2_with fail
          refine (HBN.out _).mono ?_
          rintro e w7 ⟨rfl, hb7⟩
          have HB7 := Lib.hid (HB5.out.trans (hb7.mono HB5.out.size))
          clear hb7
          go_wp2_with fail
          refine (HLV.out _).mono ?_
          rintro e w8 ⟨rfl, hb8⟩
          have HB8 := Lib.hid (HB7.out.trans (hb8.mono HB7.out.size))
          clear hb8
          go_wp2
          go_ret
          exact ⟨rfl, HB8.out⟩
      | false =>
        have haf : ib = false := by
          cases ib with
          | false => rfl
          | true => have := HA.out HPOS.out (HI1.out (by trivial)); cases this
        subst haf
        go_wp2_with fail
        refine (HCV.out _).mono ?_
        rintro e w6 ⟨rfl, hb6⟩
        have HB6 := Lib.hid (HB5.out.trans (hb6.mono HB5.out.size))
        have HN6 := Lib.hid (HN5.out.below hb6)
        clear hb6 q0 q1 q2 q3 q4 q5 q6 q7
        obtain ⟨q0, q1, q2, q3, q4, q5, q6, q7⟩ := HN6.out.cells
        cases b with
        | true =>
          go_wp2_with fail
          refine (HLV.out _).mono ?_
          rintro e w8 ⟨rfl, hb8⟩
          have HB8 := Lib.hid (HB6.out.trans (hb8.mono HB6.out.size))
          clear hb8
          go_wp2
          go_ret
          exact ⟨rfl, HB8.out⟩
        | false =>
          have hbf : bb = false := by
            cases bb with
            | false => rfl
            | true => have := HBB.out HPOS.out (HI2.out (by trivial)); cases this
          subst hbf
          go_wp2_with fail
          refine (HBN.out _).mono ?_
          rintro e w7 ⟨rfl, hb7⟩
          have HB7 := Lib.hid (HB6.out.trans (hb7.mono HB6.out.size))
          clear hb7
          go_wp2_with fail
          refine (HLV.out _).mono ?_
          rintro e w8 ⟨rfl, hb8⟩
          have HB8 := Lib.hid (HB7.out.trans (hb8.mono HB7.out.size))
          clear hb8
          go_wp2
          go_ret
          exact ⟨rfl, HB8.out⟩
end Go.Proofs.Ytlbafmmeglafhaa
