/- The law NodeSame, walked: which two nodes have the same is as the document says; a clone has the same, and shares no memory. Condition: both nodes' rows are there. -/
import Derived.Test.YtlbafmmeglafhaaNodeTwo2
import Derived.Test.YtlbafmmeglafhaaNodeClone2
import Derived.Test.YtlbafmmeglafhaaNodeRSame
import Derived.Test.YtlbafmmeglafhaaNodeLives
import Derived.Test.YtlbafmmeglafhaaNodeChecks
import Derived.Deep.RegionHeldLaw
import Derived.Deep.DeepCutAuto
namespace Go.Proofs.Ytlbafmmeglafhaa
open Go.RowKit

def CloneIn (W0 W w' : World) (e : Ending) (lv nx : Int) (lo hi : ByteArray) (la : Bool) (ks : List ByteArray) (vs : List Nat) (cs : List Int) : Prop :=
  ∃ ko vo co, e = .returned (.agg #[.int .i64 lv, .string lo, .string hi, .bool la, .int .i64 nx, .slice ko ks.length ks.length, .slice vo vs.length vs.length, .slice co cs.length cs.length]) ∧
    NewRow W w' 9 (.slice ko ks.length ks.length) (ks.map Value.string) ∧ NewRow W w' 22 (.slice vo vs.length vs.length) (vs.map uv) ∧ NewRow W w' 3 (.slice co cs.length cs.length) (cs.map (Value.int .i64)) ∧ Below W.heap.size W w' ∧ Below W0.heap.size W0 w'
theorem cloneIn_of {W0 W w' : World} {e : Ending} {lv nx : Int} {lo hi : ByteArray} {la : Bool} {ks : List ByteArray} {vs : List Nat} {cs : List Int} (hb : Below W0.heap.size W0 W) (h : CloneGives W w' e lv nx lo hi la ks vs cs) : CloneIn W0 W w' e lv nx lo hi la ks vs cs := by
  obtain ⟨kv, vv, cv, he, h1, h2, h3, h4⟩ := h
  obtain ⟨ko, rfl⟩ := h1.open
  obtain ⟨vo, rfl⟩ := h2.open
  obtain ⟨co, rfl⟩ := h3.open
  rw [List.length_map] at *
  exact ⟨ko, vo, co, by simpa using he, h1, by simpa using h2, by simpa using h3, h4, hb.trans (h4.mono hb.size)⟩

set_option maxHeartbeats 40000000 in
set_option maxRecDepth 100000 in
theorem same_any (lv nx : Int) (lo hi : ByteArray) (la : Bool) (ak av ac : Option Addr) (nk ck nv cv nc cc : Nat) (lv2 nx2 : Int) (lo2 hi2 : ByteArray) (la2 : Bool) (ak2 av2 ac2 : Option Addr) (nk2 ck2 nv2 cv2 nc2 cc2 : Nat) (ks : List ByteArray) (vs : List Nat) (cs : List Int) (ks2 : List ByteArray) (vs2 : List Nat) (cs2 : List Int) (w : World) (hN : NdAt w ak av ac nk ck nv cv nc cc ks vs cs) (hM : NdAt w ak2 av2 ac2 nk2 ck2 nv2 cv2 nc2 cc2 ks2 vs2 cs2) :
    Calls Try.prog 7 #[.agg #[.int .i64 lv, .string lo, .string hi, .bool la, .int .i64 nx, .slice ak nk ck, .slice av nv cv, .slice ac nc cc], .agg #[.int .i64 lv2, .string lo2, .string hi2, .bool la2, .int .i64 nx2, .slice ak2 nk2 ck2, .slice av2 nv2 cv2, .slice ac2 nc2 cc2]] w fun e w' => e = .returned (.bool true) ∧ Below w.heap.size w w' := by
  obtain ⟨n1, n2, hB⟩ := boxes2 w #[.int .i64 lv, .string lo, .string hi, .bool la, .int .i64 nx, .slice ak nk ck, .slice av nv cv, .slice ac nc cc] #[.int .i64 lv2, .string lo2, .string hi2, .bool la2, .int .i64 nx2, .slice ak2 nk2 ck2, .slice av2 nv2 cv2, .slice ac2 nc2 cc2]
  obtain ⟨w1, hw1⟩ : ∃ w1, w1 = (w.alloc (.cells #[.int .i64 lv, .string lo, .string hi, .bool la, .int .i64 nx, .slice ak nk ck, .slice av nv cv, .slice ac nc cc] 62)).alloc (.cells #[.int .i64 lv2, .string lo2, .string hi2, .bool la2, .int .i64 nx2, .slice ak2 nk2 ck2, .slice av2 nv2 cv2, .slice ac2 nc2 cc2] 62) := ⟨_, rfl⟩
  have HB : Hid (Below w.heap.size w w1) := Lib.hid (by rw [hw1]; exact hB)
  have HN1 : Hid (NB w1 w.heap.size #[.int .i64 lv, .string lo, .string hi, .bool la, .int .i64 nx, .slice ak nk ck, .slice av nv cv, .slice ac nc cc]) := Lib.hid (by rw [hw1]; exact n1)
  have HN2 : Hid (NB w1 (w.heap.size + 1) #[.int .i64 lv2, .string lo2, .string hi2, .bool la2, .int .i64 nx2, .slice ak2 nk2 ck2, .slice av2 nv2 cv2, .slice ac2 nc2 cc2]) := Lib.hid (by rw [hw1]; exact n2)
  have HSZ : Hid (w1.heap.size = w.heap.size + 1 + 1) := Lib.hid (by rw [hw1, World.size_alloc, World.size_alloc])
  have HW1 := Lib.hid hw1
  have HL := Lib.hid (fun W (hb : Below w.heap.size w W) => nlight_any lv nx lo hi la ak av ac nk ck nv cv nc cc ks W (hN.keep hb).k (by have := rd_len hN.v; omega) (by have := rd_len hN.c; omega))
  have HL2 := Lib.hid (fun W (hb : Below w.heap.size w W) => nlight_any lv2 nx2 lo2 hi2 la2 ak2 av2 ac2 nk2 ck2 nv2 cv2 nc2 cc2 ks2 W (hM.keep hb).k (by have := rd_len hM.v; omega) (by have := rd_len hM.c; omega))
  have HND := Lib.hid hN
  have HMD := Lib.hid hM
  have HKL := Lib.hid (rd_len hN.k).1
  have HVL := Lib.hid (rd_len hN.v).1
  have HCL := Lib.hid (rd_len hN.c).1
  have HLV := Lib.hid (fun W => lives10_any W)
  obtain ⟨q0, q1, q2, q3, q4, q5, q6, q7⟩ := HN1.out.cells
  clear n1 n2 hB hw1 hN hM
  go_enter Try.func7, Try.ntmps7
  go_wp2_with fail
  rw [← HW1.out]
  refine (HL.out _ HB.out).mono ?_
  rintro e w2 ⟨r, rfl, hr, hb2⟩
  have HP := Lib.hid hr
  have HB2 := Lib.hid (HB.out.trans (hb2.mono HB.out.size))
  have HN12 := Lib.hid (HN1.out.below hb2)
  have HN22 := Lib.hid (HN2.out.below hb2)
  clear hr hb2 q0 q1 q2 q3 q4 q5 q6 q7 HN1 HN2 HW1
  obtain ⟨q0, q1, q2, q3, q4, q5, q6, q7⟩ := HN22.out.cells
  cases r with
  | false =>
    go_wp2_with fail
    refine (HLV.out _).mono ?_
    rintro e w3 ⟨rfl, hb3⟩
    have HB3 := Lib.hid (HB2.out.trans (hb3.mono HB2.out.size))
    clear hb3
    go_wp2
    go_ret
    exact ⟨rfl, HB3.out⟩
  | true =>
    have HLP := Lib.hid (HP.out.1 rfl)
    go_wp2_with fail
    refine (HL2.out _ HB2.out).mono ?_
    rintro e W0 ⟨r2, rfl, hr2, hb3⟩
    have HP2 := Lib.hid hr2
    have HB3 := Lib.hid (HB2.out.trans (hb3.mono HB2.out.size))
    have HG1 := Lib.hid (HN12.out.below hb3)
    have HG2 := Lib.hid (HN22.out.below hb3)
    have HZ0 : Hid (w.heap.size + 1 + 1 ≤ W0.heap.size) := Lib.hid (by have h1 := lt_of_block HG2.out; omega)
    clear hr2 hb3 q0 q1 q2 q3 q4 q5 q6 q7 HN12 HN22
    cases r2 with
    | false =>
      go_wp2_with fail
      refine (HLV.out _).mono ?_
      rintro e w3 ⟨rfl, hb3⟩
      have HB4 := Lib.hid (HB3.out.trans (hb3.mono HB3.out.size))
      clear hb3
      go_wp2
      go_ret
      exact ⟨rfl, HB4.out⟩
    | true =>
      have HT := Lib.hid (light_texts HLP.out HKL.out)
      have HC : Hid (∀ W, Below W0.heap.size W0 W → ((W.cell? ⟨w.heap.size, 0, none⟩ = some (.int .i64 lv) ∧ W.cell? ⟨w.heap.size, 1, none⟩ = some (.string lo) ∧ W.cell? ⟨w.heap.size, 2, none⟩ = some (.string hi) ∧ W.cell? ⟨w.heap.size, 3, none⟩ = some (.bool la) ∧ W.cell? ⟨w.heap.size, 4, none⟩ = some (.int .i64 nx) ∧ W.cell? ⟨w.heap.size, 5, none⟩ = some (.slice ak nk ck) ∧ W.cell? ⟨w.heap.size, 6, none⟩ = some (.slice av nv cv) ∧ W.cell? ⟨w.heap.size, 7, none⟩ = some (.slice ac nc cc)) ∧ Below W0.heap.size W0 W)) := Lib.hid (fun W h => ⟨(HG1.out.below h).cells, h⟩)
      have HCN : Hid (∀ W, ((W.cell? ⟨w.heap.size, 0, none⟩ = some (.int .i64 lv) ∧ W.cell? ⟨w.heap.size, 1, none⟩ = some (.string lo) ∧ W.cell? ⟨w.heap.size, 2, none⟩ = some (.string hi) ∧ W.cell? ⟨w.heap.size, 3, none⟩ = some (.bool la) ∧ W.cell? ⟨w.heap.size, 4, none⟩ = some (.int .i64 nx) ∧ W.cell? ⟨w.heap.size, 5, none⟩ = some (.slice ak nk ck) ∧ W.cell? ⟨w.heap.size, 6, none⟩ = some (.slice av nv cv) ∧ W.cell? ⟨w.heap.size, 7, none⟩ = some (.slice ac nc cc)) ∧ Below W0.heap.size W0 W) → Calls Try.prog 35 #[.agg #[.int .i64 lv, .string lo, .string hi, .bool la, .int .i64 nx, .slice ak nk ck, .slice av nv cv, .slice ac nc cc]] W fun e w' => CloneIn W0 W w' e lv nx lo hi la ks vs cs) := Lib.hid (fun W h => (nclone_any lv nx lo hi la ak av ac nk ck nv cv nc cc ks vs cs W ((HND.out.keep HB3.out).keep h.2) (by have := HLP.out.n; omega)).mono (fun e w' hc => cloneIn_of h.2 hc))
      clear HL HL2
      go_upto_region 3 with fail
      go_cut [5, 6] (fun s5 s6 wx => Hid (TwoC W0 wx s5 s6 lv nx lo hi la ks vs cs))
      case first =>
        · skip
          have hS0 := HC.out W0.drew (Below.refl _ _).drew
          go_region_held_law (fun W => ((W.cell? ⟨w.heap.size, 0, none⟩ = some (.int .i64 lv) ∧ W.cell? ⟨w.heap.size, 1, none⟩ = some (.string lo) ∧ W.cell? ⟨w.heap.size, 2, none⟩ = some (.string hi) ∧ W.cell? ⟨w.heap.size, 3, none⟩ = some (.bool la) ∧ W.cell? ⟨w.heap.size, 4, none⟩ = some (.int .i64 nx) ∧ W.cell? ⟨w.heap.size, 5, none⟩ = some (.slice ak nk ck) ∧ W.cell? ⟨w.heap.size, 6, none⟩ = some (.slice av nv cv) ∧ W.cell? ⟨w.heap.size, 7, none⟩ = some (.slice ac nc cc)) ∧ Below W0.heap.size W0 W))
            (first | (with_reducible exact hS0) | (with_reducible exact hS3) | (with_reducible exact hS4) | ((with_reducible refine HC.out _ ?_); repeat' (first | (with_reducible assumption) | (with_reducible exact Below.refl _ _) | (with_reducible refine Below.drew ?_) | (with_reducible refine Below.alloc ?_ ?_ _) | (with_reducible refine Below.setCell ?_ ?_ _) | omega | (simp <;> omega))))
            (first
              | (go_at_call 35; (have _h := hS3); (with_reducible refine (HCN.out _ (by assumption)).mono ?_); rintro e w4 ⟨k4, v4, c4, rfl, rk4, rv4, rc4, hb4, hB4⟩; have hS4 := HC.out _ hB4; obtain ⟨hc4, hf4⟩ := bcell hb4; have hz4 := hb4.size; have hzz4 := hB4.size; (try simp at hz4); (first | (have hx4 : W0.heap.size + 1 < w4.heap.size := by omega) | (have hx4 : W0.heap.size < w4.heap.size := by omega) | skip); (first | (have hx5 : W0.heap.size < w4.heap.size := by omega) | skip); (first | (have hx6 : w3.heap.size < w4.heap.size := by omega) | skip); (first | (have hy4 : w3.heap.size + 1 < w4.heap.size := by omega) | (have hy4 : w3.heap.size < w4.heap.size := by omega) | skip))
              | (go_at_call 35; (with_reducible refine (HCN.out _ (by assumption)).mono ?_); rintro e w3 ⟨k3, v3, c3, rfl, rk3, rv3, rc3, hb3, hB3⟩; have hS3 := HC.out _ hB3; obtain ⟨hc3, hf3⟩ := bcell hb3; have hz3 := hb3.size; have hzz3 := hB3.size; (try simp at hz3); (first | (have hx3 : W0.heap.size < w3.heap.size := by omega) | skip); (first | (have hy3 : W0.heap.size + 1 < w3.heap.size := by omega) | (have hy3 : W0.heap.size < w3.heap.size := by omega) | skip)))
          all_goals
            clear hc3 hf3 hc4 hf4
            (first | go_meet | (go_step; go_meet) | (go_step; go_step; go_meet))
            apply twoC_of
            · repeat' (first
                          | (with_reducible refine NP.drew ?_)
                          | ((with_reducible refine NP.set ?_ _ _ (by decide) ?_))
                          | ((with_reducible refine NP.new ?_ _ _ _ _ _ _ _ _); (first | omega | (simp; done) | (simp; omega)); done)
                          | ((with_reducible refine NP.none ?_ _ _ _ _ _ _ _ _); (first | omega | (simp; done) | (simp; omega)); done)
                          | (with_reducible refine NP.alloc ?_ _)
                          | ((with_reducible refine NP.far ?_ ?_ _))
                          | (with_reducible refine NP.below ?_ hb4)
                          | (with_reducible refine NP.below ?_ hb3)
                          | (intro p hp; simp only [List.mem_cons, List.not_mem_nil, or_false] at hp; (repeat' (rcases hp with rfl | hp)); (first | omega | (subst hp; decide) | cases hp | decide); done)
                          | omega
                          | (simp; done)
                          | (simp; omega))
            · repeat' (first
                          | (with_reducible refine NP.drew ?_)
                          | ((with_reducible refine NP.set ?_ _ _ (by decide) ?_))
                          | ((with_reducible refine NP.new ?_ _ _ _ _ _ _ _ _); (first | omega | (simp; done) | (simp; omega)); done)
                          | ((with_reducible refine NP.none ?_ _ _ _ _ _ _ _ _); (first | omega | (simp; done) | (simp; omega)); done)
                          | (with_reducible refine NP.alloc ?_ _)
                          | ((with_reducible refine NP.far ?_ ?_ _))
                          | (with_reducible refine NP.below ?_ hb4)
                          | (with_reducible refine NP.below ?_ hb3)
                          | (intro p hp; simp only [List.mem_cons, List.not_mem_nil, or_false] at hp; (repeat' (rcases hp with rfl | hp)); (first | omega | (subst hp; decide) | cases hp | decide); done)
                          | omega
                          | (simp; done)
                          | (simp; omega))
            · (first | (with_reducible refine NewRow.mid rk3 ?_ ?_) | (with_reducible refine NewRow.mid rk4 ?_ ?_) | (with_reducible refine NewRow.mid rv3 ?_ ?_) | (with_reducible refine NewRow.mid rv4 ?_ ?_) | (with_reducible refine NewRow.mid rc3 ?_ ?_) | (with_reducible refine NewRow.mid rc4 ?_ ?_)); all_goals (repeat' (first | (with_reducible exact Mid.refl _ _ _) | (with_reducible refine Mid.drew ?_) | (with_reducible refine Mid.set ?_ ?_) | (with_reducible refine Mid.alloc ?_ ?_) | (with_reducible refine Mid.below ?_ ?_ hb4) | (with_reducible refine Mid.below ?_ ?_ hb3) | omega | (simp <;> omega)))
            · (first | (with_reducible refine NewRow.mid rk3 ?_ ?_) | (with_reducible refine NewRow.mid rk4 ?_ ?_) | (with_reducible refine NewRow.mid rv3 ?_ ?_) | (with_reducible refine NewRow.mid rv4 ?_ ?_) | (with_reducible refine NewRow.mid rc3 ?_ ?_) | (with_reducible refine NewRow.mid rc4 ?_ ?_)); all_goals (repeat' (first | (with_reducible exact Mid.refl _ _ _) | (with_reducible refine Mid.drew ?_) | (with_reducible refine Mid.set ?_ ?_) | (with_reducible refine Mid.alloc ?_ ?_) | (with_reducible refine Mid.below ?_ ?_ hb4) | (with_reducible refine Mid.below ?_ ?_ hb3) | omega | (simp <;> omega)))
            · (first | (with_reducible refine NewRow.mid rk3 ?_ ?_) | (with_reducible refine NewRow.mid rk4 ?_ ?_) | (with_reducible refine NewRow.mid rv3 ?_ ?_) | (with_reducible refine NewRow.mid rv4 ?_ ?_) | (with_reducible refine NewRow.mid rc3 ?_ ?_) | (with_reducible refine NewRow.mid rc4 ?_ ?_)); all_goals (repeat' (first | (with_reducible exact Mid.refl _ _ _) | (with_reducible refine Mid.drew ?_) | (with_reducible refine Mid.set ?_ ?_) | (with_reducible refine Mid.alloc ?_ ?_) | (with_reducible refine Mid.below ?_ ?_ hb4) | (with_reducible refine Mid.below ?_ ?_ hb3) | omega | (simp <;> omega)))
            · (first | (with_reducible refine NewRow.mid rk3 ?_ ?_) | (with_reducible refine NewRow.mid rk4 ?_ ?_) | (with_reducible refine NewRow.mid rv3 ?_ ?_) | (with_reducible refine NewRow.mid rv4 ?_ ?_) | (with_reducible refine NewRow.mid rc3 ?_ ?_) | (with_reducible refine NewRow.mid rc4 ?_ ?_)); all_goals (repeat' (first | (with_reducible exact Mid.refl _ _ _) | (with_reducible refine Mid.drew ?_) | (with_reducible refine Mid.set ?_ ?_) | (with_reducible refine Mid.alloc ?_ ?_) | (with_reducible refine Mid.below ?_ ?_ hb4) | (with_reducible refine Mid.below ?_ ?_ hb3) | omega | (simp <;> omega)))
            · (first | (with_reducible refine NewRow.mid rk3 ?_ ?_) | (with_reducible refine NewRow.mid rk4 ?_ ?_) | (with_reducible refine NewRow.mid rv3 ?_ ?_) | (with_reducible refine NewRow.mid rv4 ?_ ?_) | (with_reducible refine NewRow.mid rc3 ?_ ?_) | (with_reducible refine NewRow.mid rc4 ?_ ?_)); all_goals (repeat' (first | (with_reducible exact Mid.refl _ _ _) | (with_reducible refine Mid.drew ?_) | (with_reducible refine Mid.set ?_ ?_) | (with_reducible refine Mid.alloc ?_ ?_) | (with_reducible refine Mid.below ?_ ?_ hb4) | (with_reducible refine Mid.below ?_ ?_ hb3) | omega | (simp <;> omega)))
            · (first | (with_reducible refine NewRow.mid rk3 ?_ ?_) | (with_reducible refine NewRow.mid rk4 ?_ ?_) | (with_reducible refine NewRow.mid rv3 ?_ ?_) | (with_reducible refine NewRow.mid rv4 ?_ ?_) | (with_reducible refine NewRow.mid rc3 ?_ ?_) | (with_reducible refine NewRow.mid rc4 ?_ ?_)); all_goals (repeat' (first | (with_reducible exact Mid.refl _ _ _) | (with_reducible refine Mid.drew ?_) | (with_reducible refine Mid.set ?_ ?_) | (with_reducible refine Mid.alloc ?_ ?_) | (with_reducible refine Mid.below ?_ ?_ hb4) | (with_reducible refine Mid.below ?_ ?_ hb3) | omega | (simp <;> omega)))
            · (first | (with_reducible refine apart_of rk3 rk4 ?_) | (with_reducible refine (apart_of rk3 rk4 ?_).symm) | (with_reducible refine apart_of rv3 rv4 ?_) | (with_reducible refine (apart_of rv3 rv4 ?_).symm) | (with_reducible refine apart_of rc3 rc4 ?_) | (with_reducible refine (apart_of rc3 rc4 ?_).symm)); (first | omega | (simp; done) | (simp <;> omega))
            · (first | (with_reducible refine apart_of rk3 rk4 ?_) | (with_reducible refine (apart_of rk3 rk4 ?_).symm) | (with_reducible refine apart_of rv3 rv4 ?_) | (with_reducible refine (apart_of rv3 rv4 ?_).symm) | (with_reducible refine apart_of rc3 rc4 ?_) | (with_reducible refine (apart_of rc3 rc4 ?_).symm)); (first | omega | (simp; done) | (simp <;> omega))
            · (first | (with_reducible refine apart_of rk3 rk4 ?_) | (with_reducible refine (apart_of rk3 rk4 ?_).symm) | (with_reducible refine apart_of rv3 rv4 ?_) | (with_reducible refine (apart_of rv3 rv4 ?_).symm) | (with_reducible refine apart_of rc3 rc4 ?_) | (with_reducible refine (apart_of rc3 rc4 ?_).symm)); (first | omega | (simp; done) | (simp <;> omega))
            · repeat' (first | (with_reducible assumption) | (with_reducible exact Below.refl _ _) | (with_reducible refine Below.drew ?_) | (with_reducible refine Below.alloc ?_ ?_ _) | (with_reducible refine Below.setCell ?_ ?_ _) | omega | (simp <;> omega))
      case rest =>
        obtain ⟨gc, gd, ka, va, ca, kb, vb, cb, rfl, rfl, hT⟩ := hcut.out
        have HTW := Lib.hid hT
        have HLN : Hid (ks.length ≤ 80 ∧ vs.length ≤ 80 ∧ cs.length ≤ 80) := Lib.hid (by have := HLP.out.n; rw [HKL.out, HVL.out, HCL.out]; exact this)
        have HLB : Hid (ks.length ≤ 9223372036854775807 ∧ vs.length ≤ 9223372036854775807 ∧ cs.length ≤ 9223372036854775807) := Lib.hid (by have := HLN.out; omega)
        have HKS : Hid (∀ k, (h : k < ks.length) → ks[k].size ≤ 100) := Lib.hid (fun k h => by
          have := HLP.out.k k (by have := HKL.out; omega)
          rw [nth_eq h] at this
          exact this)
        obtain ⟨q, hq⟩ := bool_or (SameP lv nx lo hi la ks vs cs lv2 nx2 lo2 hi2 la2 ks2 vs2 cs2)
        have HNA := Lib.hid (fun (p : Later wc) => (HND.out.keep HB3.out).keep (hT.b.trans (p.h.mono hT.b.size)))
        have HNB := Lib.hid (fun (p : Later wc) => (HMD.out.keep HB3.out).keep (hT.b.trans (p.h.mono hT.b.size)))
        have HNC := Lib.hid (fun (p : Later wc) => (hT.nc HLB.out).keep p.h)
        have HS1 := Lib.hid (fun (p : Later wc) => nsame_of lv nx lo hi la ak av ac nk ck nv cv nc cc lv2 nx2 lo2 hi2 la2 ak2 av2 ac2 nk2 ck2 nv2 cv2 nc2 cc2 ks vs cs ks2 vs2 cs2 q p.w (HNA.out p) (HNB.out p) hq)
        have HS2 := Lib.hid (fun (p : Later wc) => rnsame_of lv nx lo hi la ak av ac nk ck nv cv nc cc lv2 nx2 lo2 hi2 la2 ak2 av2 ac2 nk2 ck2 nv2 cv2 nc2 cc2 ks vs cs ks2 vs2 cs2 q p.w (HNA.out p) (HNB.out p) hq)
        have HS3 := Lib.hid (fun (p : Later wc) => rnsame_of lv nx lo hi la ka va ca ks.length ks.length vs.length vs.length cs.length cs.length lv nx lo hi la ak av ac nk ck nv cv nc cc ks vs cs ks vs cs true p.w (HNC.out p) (HNA.out p) ⟨fun _ => ⟨rfl, rfl, rfl, rfl, rfl, rfl, rfl, rfl⟩, fun _ => rfl⟩)
        have HS4 := Lib.hid (fun (p : Later wc) => nsame_of lv nx lo hi la ak av ac nk ck nv cv nc cc lv nx lo hi la ka va ca ks.length ks.length vs.length vs.length cs.length cs.length ks vs cs ks vs cs true p.w (HNA.out p) (HNC.out p) ⟨fun _ => ⟨rfl, rfl, rfl, rfl, rfl, rfl, rfl, rfl⟩, fun _ => rfl⟩)
        have HAW := Lib.hid (HG1.out.below hT.b)
        have HBW := Lib.hid (HG2.out.below hT.b)
        have a0 : ∀ p : Later wc, (p.w.cell? ⟨w.heap.size, 0, none⟩ = some (.int .i64 lv) ∧ p.w.cell? ⟨w.heap.size, 1, none⟩ = some (.string lo) ∧ p.w.cell? ⟨w.heap.size, 2, none⟩ = some (.string hi) ∧ p.w.cell? ⟨w.heap.size, 3, none⟩ = some (.bool la) ∧ p.w.cell? ⟨w.heap.size, 4, none⟩ = some (.int .i64 nx) ∧ p.w.cell? ⟨w.heap.size, 5, none⟩ = some (.slice ak nk ck) ∧ p.w.cell? ⟨w.heap.size, 6, none⟩ = some (.slice av nv cv) ∧ p.w.cell? ⟨w.heap.size, 7, none⟩ = some (.slice ac nc cc)) := fun p => (HAW.out.below p.h).cells
        have b0 : ∀ p : Later wc, (p.w.cell? ⟨w.heap.size + 1, 0, none⟩ = some (.int .i64 lv2) ∧ p.w.cell? ⟨w.heap.size + 1, 1, none⟩ = some (.string lo2) ∧ p.w.cell? ⟨w.heap.size + 1, 2, none⟩ = some (.string hi2) ∧ p.w.cell? ⟨w.heap.size + 1, 3, none⟩ = some (.bool la2) ∧ p.w.cell? ⟨w.heap.size + 1, 4, none⟩ = some (.int .i64 nx2) ∧ p.w.cell? ⟨w.heap.size + 1, 5, none⟩ = some (.slice ak2 nk2 ck2) ∧ p.w.cell? ⟨w.heap.size + 1, 6, none⟩ = some (.slice av2 nv2 cv2) ∧ p.w.cell? ⟨w.heap.size + 1, 7, none⟩ = some (.slice ac2 nc2 cc2)) := fun p => (HBW.out.below p.h).cells
        have c0 := fun p : Later wc => (hT.c.below p.h).cells
        have hqq : (q != q) = false := by simp
        clear hq hT hcut HC HCN
        go_wp2_with fail
        refine wp_region_later (by kernel_rfl) (by kernel_rfl) ?_
        repeat (quiet_step ((first | (go_at_call 36; first | (with_reducible exact later_of (HS1.out _)) | (with_reducible exact later_of (HS4.out _))) | (go_at_call 37; first | (with_reducible exact later_of (HS2.out _)) | (with_reducible exact later_of (HS3.out _))))))
        refine wpQuiet_nil ?_
        intro _ hw'
        obtain ⟨⟨wq, hwq⟩, hw''⟩ := hw'
        subst hw''
        have T1 := Lib.hid (HTW.out.keep hwq)
        have HWQ := Lib.hid (HTW.out.b.trans (hwq.mono HTW.out.b.size))
        clear a0 b0 c0 hqq HS1 HS2 HS3 HS4 HNA HNB HNC HAW HBW hwq
        obtain ⟨c0, c1, c2, c3, c4, c5, c6, c7⟩ := T1.out.c.cells
        go_wp2
        go_loopw [45] (fun s wr => ∃ (k : Nat) (xk : List Value), s = .int .i64 k ∧ k ≤ ks.length ∧ Hid (TwoAt W0 wr gc gd lv nx lo hi la ka va ca kb vb cb xk (vs.map uv) (cs.map (Value.int .i64)) ks vs cs) ∧ Hid (Still xk (ks.map Value.string) k)) (fun s _ => ks.length - (intOf s).toNat)
        case atStart => exact ⟨0, _, rfl, Nat.zero_le _, T1, Lib.hid (fun i _ => rfl)⟩
        case round =>
          obtain ⟨k, xk, rfl, hk, hT, hS⟩ := hrel
          have r5 := hT.out.c.cells.2.2.2.2.2.1
          by_cases hlt : k < ks.length
          · obtain ⟨g, rfl, hg, hW, hl⟩ := row_at hT.out.ck hlt
            obtain ⟨hc, hf⟩ := hW.still hS.out hlt
            have hsz := HKS.out k hlt
            have HN := Lib.hid (fun u => hT.out.setK (k := k) hW hg u)
            have HSS := Lib.hid (fun u => hS.out.set u)
            have hlt2 : k + 1 ≤ ks.length := hlt
            have hk80 : k < 80 := by have := HLN.out; omega
            clear hW hl hg c0 c1 c2 c3 c4 c5 c6 c7
            generalize ks[k] = z at *
            have hadd : z.size + 1 ≤ 9223372036854775807 := by omega
            go_wp2
            go_roundw
            case rel => exact ⟨k + 1, _, by go_num, by omega, Lib.hid (HN.out _), Lib.hid (HSS.out _)⟩
            case measure => simp [intOf]; omega
          · clear c0 c1 c2 c3 c4 c5 c6 c7
            have T2 := hT
            clear hT hS
            obtain ⟨w5, rfl⟩ : ∃ w5 : World, w5 = wr := ⟨_, rfl⟩
            obtain ⟨c0, c1, c2, c3, c4, c5, c6, c7⟩ := T2.out.c.cells
            go_wp2
            go_loopw [59] (fun s wr => ∃ (k : Nat) (xv : List Value), s = .int .i64 k ∧ k ≤ vs.length ∧ Hid (TwoAt W0 wr gc gd lv nx lo hi la ka va ca kb vb cb xk xv (cs.map (Value.int .i64)) ks vs cs) ∧ Hid (Still xv (vs.map uv) k)) (fun s _ => vs.length - (intOf s).toNat)
            case atStart => exact ⟨0, _, rfl, Nat.zero_le _, T2, Lib.hid (fun i _ => rfl)⟩
            case round =>
              obtain ⟨k, xv, rfl, hk, hT, hS⟩ := hrel
              have r6 := hT.out.c.cells.2.2.2.2.2.2.1
              by_cases hlt : k < vs.length
              · obtain ⟨g, rfl, hg, hW, hl⟩ := row_at hT.out.cv hlt
                obtain ⟨hc, hf⟩ := hW.still hS.out hlt
                have HN := Lib.hid (fun u => hT.out.setV (k := k) hW hg u)
                have HSS := Lib.hid (fun u => hS.out.set u)
                unfold uv at hc
                have hlt2 : k + 1 ≤ vs.length := hlt
                have hk80 : k < 80 := by have := HLN.out; omega
                clear hW hl hg c0 c1 c2 c3 c4 c5 c6 c7
                generalize vs[k] = z at *
                go_wp2
                go_roundw
                case rel => exact ⟨k + 1, _, by go_num, by omega, Lib.hid (HN.out _), Lib.hid (HSS.out _)⟩
                case measure => simp [intOf]; omega
              · clear c0 c1 c2 c3 c4 c5 c6 c7
                have T3 := hT
                clear hT hS
                obtain ⟨w6, rfl⟩ : ∃ w6 : World, w6 = wr := ⟨_, rfl⟩
                obtain ⟨c0, c1, c2, c3, c4, c5, c6, c7⟩ := T3.out.c.cells
                go_wp2
                go_loopw [73] (fun s wr => ∃ (k : Nat) (xc : List Value), s = .int .i64 k ∧ k ≤ cs.length ∧ Hid (TwoAt W0 wr gc gd lv nx lo hi la ka va ca kb vb cb xk xv xc ks vs cs) ∧ Hid (Still xc (cs.map (Value.int .i64)) k)) (fun s _ => cs.length - (intOf s).toNat)
                case atStart => exact ⟨0, _, rfl, Nat.zero_le _, T3, Lib.hid (fun i _ => rfl)⟩
                case round =>
                  obtain ⟨k, xc, rfl, hk, hT, hS⟩ := hrel
                  have r7 := hT.out.c.cells.2.2.2.2.2.2.2
                  by_cases hlt : k < cs.length
                  · obtain ⟨g, rfl, hg, hW, hl⟩ := row_at hT.out.cc hlt
                    obtain ⟨hc, hf⟩ := hW.still hS.out hlt
                    have HN := Lib.hid (fun u => hT.out.setC (k := k) hW hg u)
                    have HSS := Lib.hid (fun u => hS.out.set u)
                    have hlt2 : k + 1 ≤ cs.length := hlt
                    have hk80 : k < 80 := by have := HLN.out; omega
                    clear hW hl hg c0 c1 c2 c3 c4 c5 c6 c7
                    generalize cs[k] = z at *
                    go_wp2
                    go_roundw
                    case rel => exact ⟨k + 1, _, by go_num, by omega, Lib.hid (HN.out _), Lib.hid (HSS.out _)⟩
                    case measure => simp [intOf]; omega
                  · clear c0 c1 c2 c3 c4 c5 c6 c7
                    have T4 := hT
                    clear hT hS
                    obtain ⟨d0, d1, d2, d3, d4, d5, d6, d7⟩ := T4.out.d.cells
                    have HA4 := Lib.hid (HG1.out.below T4.out.b)
                    obtain ⟨a0, a1, a2, a3, a4, a5, a6, a7⟩ := HA4.out.cells
                    have HS5 := Lib.hid (rnsame_of lv nx lo hi la kb vb cb ks.length ks.length vs.length vs.length cs.length cs.length lv nx lo hi la ak av ac nk ck nv cv nc cc ks vs cs ks vs cs true wr (T4.out.nd HLB.out) ((HND.out.keep HB3.out).keep T4.out.b) ⟨fun _ => ⟨rfl, rfl, rfl, rfl, rfl, rfl, rfl, rfl⟩, fun _ => rfl⟩)
                    have HB5 := Lib.hid (HB3.out.trans (T4.out.b.mono HB3.out.size))
                    go_wp2_with fail
                    refine HS5.out.mono ?_
                    rintro e w8 ⟨rfl, hb8⟩
                    have HB8 := Lib.hid (HB5.out.trans (hb8.mono HB5.out.size))
                    clear hb8 d0 d1 d2 d3 d4 d5 d6 d7 a0 a1 a2 a3 a4 a5 a6 a7
                    go_wp2_with fail
                    refine (HLV.out _).mono ?_
                    rintro e w9 ⟨rfl, hb9⟩
                    have HB9 := Lib.hid (HB8.out.trans (hb9.mono HB8.out.size))
                    clear hb9
                    go_wp2
                    go_ret
                    exact ⟨rfl, HB9.out⟩
end Go.Proofs.Ytlbafmmeglafhaa
