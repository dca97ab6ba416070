/- The law NodeChecks, walked: which nodes are sound, and how many entries one should have, is as the document says. Condition: the node's rows are there. -/
import Derived.Test.YtlbafmmeglafhaaNodeLives
import Derived.Test.YtlbafmmeglafhaaNodeRSound
import Derived.Deep.RegionHeld3
namespace Go.Proofs.Ytlbafmmeglafhaa
open Go.RowKit

theorem light_texts {lo hi : ByteArray} {nk nv nc : Nat} {ks : List ByteArray} (h : LightP lo hi nk nv nc ks) (hl : ks.length = nk) : lo.size ≤ 140737488355328 ∧ hi.size ≤ 140737488355328 ∧ (∀ x ∈ ks, x.size ≤ 140737488355328) ∧ nk ≤ 274877906944 := by
  refine ⟨by have := h.b.1; omega, by have := h.b.2; omega, fun x hx => ?_, by have := h.n.1; omega⟩
  obtain ⟨i, hi, rfl⟩ := List.getElem_of_mem hx
  have := h.k i (by omega)
  rw [nth_eq hi] at this
  omega

theorem rsound_of {b : Bool} (lv nx : Int) (lo hi : ByteArray) (la : Bool) (ak av ac : Option Addr) (nk ck nv cv nc cc : Nat) (ks : List ByteArray) (vs : List Nat) (cs : List Int) (fan : Int) (w : World) (hN : NdAt w ak av ac nk ck nv cv nc cc ks vs cs) (hl : lo.size ≤ 140737488355328) (hh : hi.size ≤ 140737488355328) (hk : ∀ x ∈ ks, x.size ≤ 140737488355328) (hn : nk ≤ 274877906944) (hb : b = true ↔ SoundP lv nx lo hi la nk nv nc ks cs fan) :
    Calls Try.prog 28 #[.agg #[.int .i64 lv, .string lo, .string hi, .bool la, .int .i64 nx, .slice ak nk ck, .slice av nv cv, .slice ac nc cc], .int .i64 fan] w fun e w' => e = .returned (.bool b) ∧ Below w.heap.size w w' := by
  refine (rsound_any lv nx lo hi la ak av ac nk ck nv cv nc cc ks vs cs fan w hN hl hh hk hn).mono ?_
  rintro e w' ⟨r, rfl, h, hb'⟩
  exact ⟨by rw [Bool.eq_iff_iff.2 (h.trans hb.symm)], hb'⟩

set_option maxHeartbeats 8000000 in
set_option maxRecDepth 100000 in
theorem checks_any (lv nx : Int) (lo hi : ByteArray) (la : Bool) (ak av ac : Option Addr) (nk ck nv cv nc cc : Nat) (ks : List ByteArray) (vs : List Nat) (cs : List Int) (fan : Int) (w : World) (hN : NdAt w ak av ac nk ck nv cv nc cc ks vs cs) :
    Calls Try.prog 5 #[.agg #[.int .i64 lv, .string lo, .string hi, .bool la, .int .i64 nx, .slice ak nk ck, .slice av nv cv, .slice ac nc cc], .int .i64 fan] w fun e w' => e = .returned (.bool true) ∧ Below w.heap.size w w' := by
  have HB := Lib.hid (boxed_below w (.cells #[.int .i64 lv, .string lo, .string hi, .bool la, .int .i64 nx, .slice ak nk ck, .slice av nv cv, .slice ac nc cc] 62))
  have HNB := Lib.hid (NB.new w #[.int .i64 lv, .string lo, .string hi, .bool la, .int .i64 nx, .slice ak nk ck, .slice av nv cv, .slice ac nc cc])
  have HL := Lib.hid (fun W (hb : Below w.heap.size w W) => nlight_any lv nx lo hi la ak av ac nk ck nv cv nc cc ks W (hN.keep hb).k (by have := rd_len hN.v; omega) (by have := rd_len hN.c; omega))
  have HND := Lib.hid hN
  have HKL := Lib.hid (rd_len hN.k).1
  have HLV := Lib.hid (fun W => lives10_any W)
  obtain ⟨q0, q1, q2, q3, q4, q5, q6, q7⟩ := HNB.out.cells
  clear hN
  go_enter Try.func5, Try.ntmps5
  go_wp2_with fail
  refine (HL.out _ HB.out).mono ?_
  rintro e w2 ⟨r, rfl, hr, hb2⟩
  have HP := Lib.hid hr
  have HB2 := Lib.hid (HB.out.trans (hb2.mono HB.out.size))
  have HN2 := Lib.hid (HNB.out.below hb2)
  clear hr hb2 q0 q1 q2 q3 q4 q5 q6 q7
  cases r with
  | false =>
    go_wp2_with fail
    refine (HLV.out _).mono ?_
    rintro e w3 ⟨rfl, hb3⟩
    have HB3 := Lib.hid (HB2.out.trans (hb3.mono HB2.out.size))
    clear hb3
    go_wp2
    go_ret
    exact ⟨rfl, HB3.out⟩
  | true =>
    have HT := Lib.hid (light_texts (HP.out.1 rfl) HKL.out)
    obtain ⟨q0, q1, q2, q3, q4, q5, q6, q7⟩ := HN2.out.cells
    by_cases hf : fan < 4 ∨ 64 < fan
    · have HC := Lib.hid (fun W => check_arg lv nx lo hi la ak av ac nk ck nv cv nc cc fan W hf)
      have hc : fan < 4 ∨ (¬ fan < 4 ∧ 64 < fan) := by omega
      clear hf
      rcases hc with g1 | ⟨g1, g2⟩
      all_goals
        go_wp2_with fail
        refine (HC.out _).mono ?_
        rintro e w3 ⟨rfl, hb3⟩
        have HB3 := Lib.hid (HB2.out.trans (hb3.mono HB2.out.size))
        clear hb3
        go_wp2_with fail
        refine (HLV.out _).mono ?_
        rintro e w4 ⟨rfl, hb4⟩
        have HB4 := Lib.hid (HB3.out.trans (hb4.mono HB3.out.size))
        clear hb4
        go_wp2
        go_ret
        exact ⟨rfl, HB4.out⟩
    · obtain ⟨f, rfl⟩ : ∃ f : Nat, fan = f := ⟨fan.toNat, by omega⟩
      have HC := Lib.hid (fun W (hb : Below w.heap.size w W) => check_fan lv nx lo hi la ak av ac nk ck nv cv nc cc ks vs cs f (by omega) W (HND.out.keep hb) HT.out.1 HT.out.2.1 HT.out.2.2.1 HT.out.2.2.2)
      have HLE := Lib.hid (fun W => least_any lv f W (by omega))
      have HRL := Lib.hid (fun W => rleast_any lv f W (by omega))
      have f1 : ¬ (f : Int) < 4 := by omega
      have f2 : ¬ 64 < (f : Int) := by omega
      have hll : ((leastN lv f : Nat) : Int) = ((leastN lv f : Nat) : Int) := rfl
      clear hf hll
      generalize leastN lv f = ln at *
      have e1 : ((ln : Int) == (ln : Int)) = true := by simp
      go_wp2_with fail
      refine (HC.out _ HB2.out).mono ?_
      rintro e w3 ⟨⟨rfl, hs⟩ | ⟨rfl, hs⟩, hb3⟩
      · have HS := Lib.hid hs
        clear hs q0 q1 q2 q3 q4 q5 q6 q7
        have HSO := Lib.hid (fun W (hb : Below w.heap.size w W) => rsound_of (b := true) lv nx lo hi la ak av ac nk ck nv cv nc cc ks vs cs (f : Int) W (HND.out.keep hb) HT.out.1 HT.out.2.1 HT.out.2.2.1 HT.out.2.2.2 ⟨fun _ => HS.out, fun _ => rfl⟩)
        have HB3 := Lib.hid (HB2.out.trans (hb3.mono HB2.out.size))
        have HN3 := Lib.hid (HN2.out.below hb3)
        have HC : Hid (∀ V, Below w3.heap.size w3 V → (V.cell? ⟨w.heap.size, 0, none⟩ = some (.int .i64 lv) ∧ V.cell? ⟨w.heap.size, 1, none⟩ = some (.string lo) ∧ V.cell? ⟨w.heap.size, 2, none⟩ = some (.string hi) ∧ V.cell? ⟨w.heap.size, 3, none⟩ = some (.bool la) ∧ V.cell? ⟨w.heap.size, 4, none⟩ = some (.int .i64 nx) ∧ V.cell? ⟨w.heap.size, 5, none⟩ = some (.slice ak nk ck) ∧ V.cell? ⟨w.heap.size, 6, none⟩ = some (.slice av nv cv) ∧ V.cell? ⟨w.heap.size, 7, none⟩ = some (.slice ac nc cc)) ∧ Below w3.heap.size w3 V) := Lib.hid (fun V hV => ⟨(HN3.out.below hV).cells, hV⟩)
        have HC0 : Hid (Below w.heap.size w w3.drew) := Lib.hid (HB3.out.drew)
        have hS0 := HC.out w3.drew (Below.refl _ _).drew
        clear hb3
        go_wp2
        first | (go_region_held_law (fun V => (V.cell? ⟨w.heap.size, 0, none⟩ = some (.int .i64 lv) ∧ V.cell? ⟨w.heap.size, 1, none⟩ = some (.string lo) ∧ V.cell? ⟨w.heap.size, 2, none⟩ = some (.string hi) ∧ V.cell? ⟨w.heap.size, 3, none⟩ = some (.bool la) ∧ V.cell? ⟨w.heap.size, 4, none⟩ = some (.int .i64 nx) ∧ V.cell? ⟨w.heap.size, 5, none⟩ = some (.slice ak nk ck) ∧ V.cell? ⟨w.heap.size, 6, none⟩ = some (.slice av nv cv) ∧ V.cell? ⟨w.heap.size, 7, none⟩ = some (.slice ac nc cc)) ∧ Below w3.heap.size w3 V) (first | (with_reducible exact hS0) | exact HC.out _ hA1 | exact HC.out _ hA2 | assumption) (first | (go_at_call 28; (with_reducible refine (HSO.out _ HC0.out).mono ?_); rintro e wa ⟨rfl, hb1⟩; have hA1 := (Below.refl w3.heap.size w3).drew.trans (hb1.mono (Nat.le_refl _))) | (go_at_call 29; (with_reducible refine (HLE.out _).mono ?_); rintro e wc ⟨rfl, rfl⟩) | (go_at_call 30; (with_reducible refine (HRL.out _).mono ?_); rintro e wc ⟨rfl, rfl⟩) | (go_at_call 26; (with_reducible refine (HLV.out _).mono ?_); rintro e wb ⟨rfl, hb2⟩; have hA2 := hA1.trans (hb2.mono hA1.size)))) | fail
        all_goals
          go_wp2
          go_ret
          exact ⟨rfl, HB3.out.trans (hA2.mono HB3.out.size)⟩
      · have HS := Lib.hid hs
        clear hs q0 q1 q2 q3 q4 q5 q6 q7
        have HSO := Lib.hid (fun W (hb : Below w.heap.size w W) => rsound_of (b := false) lv nx lo hi la ak av ac nk ck nv cv nc cc ks vs cs (f : Int) W (HND.out.keep hb) HT.out.1 HT.out.2.1 HT.out.2.2.1 HT.out.2.2.2 ⟨fun h => (by cases h), fun h => absurd h HS.out⟩)
        have HB3 := Lib.hid (HB2.out.trans (hb3.mono HB2.out.size))
        have HN3 := Lib.hid (HN2.out.below hb3)
        have HC : Hid (∀ V, Below w3.heap.size w3 V → (V.cell? ⟨w.heap.size, 0, none⟩ = some (.int .i64 lv) ∧ V.cell? ⟨w.heap.size, 1, none⟩ = some (.string lo) ∧ V.cell? ⟨w.heap.size, 2, none⟩ = some (.string hi) ∧ V.cell? ⟨w.heap.size, 3, none⟩ = some (.bool la) ∧ V.cell? ⟨w.heap.size, 4, none⟩ = some (.int .i64 nx) ∧ V.cell? ⟨w.heap.size, 5, none⟩ = some (.slice ak nk ck) ∧ V.cell? ⟨w.heap.size, 6, none⟩ = some (.slice av nv cv) ∧ V.cell? ⟨w.heap.size, 7, none⟩ = some (.slice ac nc cc)) ∧ Below w3.heap.size w3 V) := Lib.hid (fun V hV => ⟨(HN3.out.below hV).cells, hV⟩)
        have HC0 : Hid (Below w.heap.size w w3.drew) := Lib.hid (HB3.out.drew)
        have hS0 := HC.out w3.drew (Below.refl _ _).drew
        clear hb3
        go_wp2
        first | (go_region_held_law (fun V => (V.cell? ⟨w.heap.size, 0, none⟩ = some (.int .i64 lv) ∧ V.cell? ⟨w.heap.size, 1, none⟩ = some (.string lo) ∧ V.cell? ⟨w.heap.size, 2, none⟩ = some (.string hi) ∧ V.cell? ⟨w.heap.size, 3, none⟩ = some (.bool la) ∧ V.cell? ⟨w.heap.size, 4, none⟩ = some (.int .i64 nx) ∧ V.cell? ⟨w.heap.size, 5, none⟩ = some (.slice ak nk ck) ∧ V.cell? ⟨w.heap.size, 6, none⟩ = some (.slice av nv cv) ∧ V.cell? ⟨w.heap.size, 7, none⟩ = some (.slice ac nc cc)) ∧ Below w3.heap.size w3 V) (first | (with_reducible exact hS0) | exact HC.out _ hA1 | exact HC.out _ hA2 | assumption) (first | (go_at_call 28; (with_reducible refine (HSO.out _ HC0.out).mono ?_); rintro e wa ⟨rfl, hb1⟩; have hA1 := (Below.refl w3.heap.size w3).drew.trans (hb1.mono (Nat.le_refl _))) | (go_at_call 29; (with_reducible refine (HLE.out _).mono ?_); rintro e wc ⟨rfl, rfl⟩) | (go_at_call 30; (with_reducible refine (HRL.out _).mono ?_); rintro e wc ⟨rfl, rfl⟩) | (go_at_call 26; (with_reducible refine (HLV.out _).mono ?_); rintro e wb ⟨rfl, hb2⟩; have hA2 := hA1.trans (hb2.mono hA1.size)))) | fail
        all_goals
          go_wp2
          go_ret
          exact ⟨rfl, HB3.out.trans (hA2.mono HB3.out.size)⟩
end Go.Proofs.Ytlbafmmeglafhaa
