/- op.Plain, bowerref16.Plain; op.Name, bowerref16.Name. Conditions: texts that fit; for op.Name the table of names. -/
import Derived.Test.YtmkglaghnjnooaaDoorOpSound
namespace Go.Proofs.YtmkglaghnjnooaaDoor
open Go.RowKit

/-- An operation with what it uses alone. -/
def opPlainV (k : Int) (key tx : ByteArray) (v : Nat) (lim : Int) : Array Value := #[.int .i64 (if usI k = true then k else 0), .string (if usK k = true then key else ⟨#[]⟩), .string (if usT k = true then tx else ⟨#[]⟩), .int .u64 (if usV k = true then (v : Int) else 0), .int .i64 (if usT k = true then lim else 0)]

theorem heap_drew {W : World} {A : Nat} {x : Option Obj} (h : W.heap[A]? = x) : W.drew.heap[A]? = x := h
theorem heap_far {V : World} {A g i : Nat} {u : Value} {x : Option Obj} (hne : A ≠ g) (h : V.heap[A]? = x) : (V.setCell ⟨g, i, none⟩ u).heap[A]? = x := (Below.heap_setCell V ⟨g, i, none⟩ u A hne).trans h

set_option maxHeartbeats 8000000 in
set_option maxRecDepth 100000 in
theorem opPlain_any (k : Int) (key tx : ByteArray) (v : Nat) (lim : Int) (w : World) :
    Calls Tryd.prog 10 #[.agg #[.int .i64 k, .string key, .string tx, .int .u64 (v : Nat), .int .i64 lim]] w fun e w' => e = .returned (.agg (opPlainV k key tx v lim)) ∧ Below w.heap.size w w' := by
  have HU := Lib.hid (fun W => used_any k W)
  have K0 := Lib.hid (fun W => kept_int (usI k) k W)
  have K1 := Lib.hid (fun W => kept_string (usK k) key W)
  have K2 := Lib.hid (fun W => kept_string (usT k) tx W)
  have K3 := Lib.hid (fun W => kept_uint64 (usV k) v W)
  have K4 := Lib.hid (fun W => kept_int (usT k) lim W)
  unfold partsV at HU
  unfold opPlainV
  generalize hp0 : (if usI k = true then k else 0) = p0 at *
  generalize hp1 : (if usK k = true then key else (⟨#[]⟩ : ByteArray)) = p1 at *
  generalize hp2 : (if usT k = true then tx else (⟨#[]⟩ : ByteArray)) = p2 at *
  generalize hp3 : (if usV k = true then (v : Int) else 0) = p3 at *
  generalize hp4 : (if usT k = true then lim else 0) = p4 at *
  clear hp0 hp1 hp2 hp3 hp4
  generalize usI k = bi at *
  generalize usK k = bk at *
  generalize usV k = bv at *
  generalize usT k = bt at *
  obtain ⟨W1, hW1, n1, n2, hB⟩ := bx2 w 24 24 #[.int .i64 k, .string key, .string tx, .int .u64 (v : Nat), .int .i64 lim] #[.int .i64 0, .string ⟨#[]⟩, .string ⟨#[]⟩, .int .u64 0, .int .i64 0]
  have HW1 := Lib.hid hW1
  have HN1 := Lib.hid n1
  have HN2 := Lib.hid n2
  have HB1 := Lib.hid hB
  have c0 : W1.cell? ⟨w.heap.size, 0, none⟩ = some (.int .i64 k) := n1.cell 0 rfl
  clear n1 n2 hB hW1
  go_enter Tryd.func10, Tryd.ntmps10
  go_upto_region 1 with fail
  rw [← HW1.out]
  clear HW1
  go_wp2_with fail
  refine (HU.out _).mono ?_
  rintro e w2 ⟨rfl, hb2⟩
  have m0 := BX.new w2 53 #[.bool bi, .bool bk, .bool bv, .bool bt, .bool bt]
  have hx2 := boxed_below w2 (.cells #[.bool bi, .bool bk, .bool bv, .bool bt, .bool bt] 53)
  obtain ⟨W3, hW3⟩ : ∃ W, W = w2.alloc (.cells #[.bool bi, .bool bk, .bool bv, .bool bt, .bool bt] 53) := ⟨_, rfl⟩
  rw [← hW3] at m0 hx2
  have h2l : w.heap.size + 2 ≤ w2.heap.size := by have h1 := lt_of_block HN2.out; have h2 := hb2.size; omega
  have HB3 : Hid (Below w.heap.size w W3) := Lib.hid ((HB1.out.trans (hb2.mono HB1.out.size)).trans (hx2.mono (Nat.le_trans HB1.out.size hb2.size)))
  have HN3 := Lib.hid ((HN1.out.below hb2).below hx2)
  have HR3 := Lib.hid ((HN2.out.below hb2).below hx2)
  have HM3 := Lib.hid m0
  have HW3 := Lib.hid hW3
  clear m0 hx2 hb2 hW3 c0
  go_upto_region 2 with fail
  rw [← HW3.out]
  clear HW3
  obtain ⟨g, hg⟩ : ∃ g, g = w2.heap.size := ⟨_, rfl⟩
  rw [← hg] at HM3 h2l ⊢
  have hg1 : w.heap.size ≠ w.heap.size + 1 := by omega
  have hg2 : g ≠ w.heap.size + 1 := by omega
  clear hg
  have HCC : Hid (∀ V : World, V.heap[w.heap.size]? = W3.heap[w.heap.size]? → V.heap[g]? = W3.heap[g]? → ((V.cell? ⟨w.heap.size, 0, none⟩ = some (.int .i64 k) ∧ V.cell? ⟨w.heap.size, 1, none⟩ = some (.string key) ∧ V.cell? ⟨w.heap.size, 2, none⟩ = some (.string tx) ∧ V.cell? ⟨w.heap.size, 3, none⟩ = some (.int .u64 (v : Nat)) ∧ V.cell? ⟨w.heap.size, 4, none⟩ = some (.int .i64 lim)) ∧ V.cell? ⟨g, 0, none⟩ = some (.bool bi) ∧ V.cell? ⟨g, 1, none⟩ = some (.bool bk) ∧ V.cell? ⟨g, 2, none⟩ = some (.bool bv) ∧ V.cell? ⟨g, 3, none⟩ = some (.bool bt) ∧ V.cell? ⟨g, 4, none⟩ = some (.bool bt))) := Lib.hid (fun V h1 h2 => by
    have a1 : BX V w.heap.size 24 #[.int .i64 k, .string key, .string tx, .int .u64 (v : Nat), .int .i64 lim] := h1.trans HN3.out
    have a2 : BX V g 53 #[.bool bi, .bool bk, .bool bv, .bool bt, .bool bt] := h2.trans HM3.out
    exact ⟨⟨a1.cell 0 rfl, a1.cell 1 rfl, a1.cell 2 rfl, a1.cell 3 rfl, a1.cell 4 rfl⟩, a2.cell 0 rfl, a2.cell 1 rfl, a2.cell 2 rfl, a2.cell 3 rfl, a2.cell 4 rfl⟩)
  have e0 : W3.cell? ⟨w.heap.size + 1, 0, none⟩ = some (.int .i64 0) := HR3.out.cell 0 rfl
  have e1 : W3.cell? ⟨w.heap.size + 1, 1, none⟩ = some (.string ⟨#[]⟩) := HR3.out.cell 1 rfl
  have e2 : W3.cell? ⟨w.heap.size + 1, 2, none⟩ = some (.string ⟨#[]⟩) := HR3.out.cell 2 rfl
  have e3 : W3.cell? ⟨w.heap.size + 1, 3, none⟩ = some (.int .u64 0) := HR3.out.cell 3 rfl
  have e4 : W3.cell? ⟨w.heap.size + 1, 4, none⟩ = some (.int .i64 0) := HR3.out.cell 4 rfl
  have f0 := HR3.out.frozen 0
  have f1 := HR3.out.frozen 1
  have f2 := HR3.out.frozen 2
  have f3 := HR3.out.frozen 3
  have f4 := HR3.out.frozen 4
  have hS0 := HCC.out W3.drew rfl rfl
  go_region_held_law (fun V => ((V.cell? ⟨w.heap.size, 0, none⟩ = some (.int .i64 k) ∧ V.cell? ⟨w.heap.size, 1, none⟩ = some (.string key) ∧ V.cell? ⟨w.heap.size, 2, none⟩ = some (.string tx) ∧ V.cell? ⟨w.heap.size, 3, none⟩ = some (.int .u64 (v : Nat)) ∧ V.cell? ⟨w.heap.size, 4, none⟩ = some (.int .i64 lim)) ∧ V.cell? ⟨g, 0, none⟩ = some (.bool bi) ∧ V.cell? ⟨g, 1, none⟩ = some (.bool bk) ∧ V.cell? ⟨g, 2, none⟩ = some (.bool bv) ∧ V.cell? ⟨g, 3, none⟩ = some (.bool bt) ∧ V.cell? ⟨g, 4, none⟩ = some (.bool bt)))
    (first | (with_reducible exact hS0) | (with_reducible assumption) | ((with_reducible refine HCC.out _ ?_ ?_) <;> repeat' (first | (with_reducible exact hg1) | (with_reducible exact hg2) | (with_reducible refine heap_far ?_ ?_) | (with_reducible refine heap_drew ?_) | (with_reducible rfl))))
    (first
      | (go_at_call 33; first | ((with_reducible refine (K0.out _).mono ?_); rintro e w9 ⟨rfl, rfl⟩) | ((with_reducible refine (K4.out _).mono ?_); rintro e w9 ⟨rfl, rfl⟩))
      | (go_at_call 34; first | ((with_reducible refine (K1.out _).mono ?_); rintro e w9 ⟨rfl, rfl⟩) | ((with_reducible refine (K2.out _).mono ?_); rintro e w9 ⟨rfl, rfl⟩))
      | (go_at_call 35; (with_reducible refine (K3.out _).mono ?_); rintro e w9 ⟨rfl, rfl⟩))
  all_goals
    go_wp2
    refine bodyPost_ret (v := .agg #[.int .i64 p0, .string p1, .string p2, .int .u64 p3, .int .i64 p4]) (by simp [results, Tryd.results10, go_sem, *]) rfl ?_
    refine ⟨rfl, ?_⟩
    repeat' (first | (with_reducible exact HB3.out) | (with_reducible refine Below.drew ?_) | (with_reducible refine Below.setCell ?_ ?_ _) | exact Nat.le_refl _ | exact Nat.le_succ _)

theorem us_none {k : Int} (h : usI k = false) : usK k = false ∧ usT k = false ∧ usV k = false := by
  unfold usI at h
  rw [decide_eq_false_iff_not] at h
  unfold usK usT usV
  exact ⟨by rw [decide_eq_false_iff_not]; omega, by rw [decide_eq_false_iff_not]; omega, by rw [decide_eq_false_iff_not]; omega⟩

set_option maxHeartbeats 8000000 in
set_option maxRecDepth 100000 in
theorem rplain_any (k : Int) (key tx : ByteArray) (v : Nat) (lim : Int) (w : World) :
    Calls Tryd.prog 11 #[.agg #[.int .i64 k, .string key, .string tx, .int .u64 (v : Nat), .int .i64 lim]] w fun e w' => e = .returned (.agg (opPlainV k key tx v lim)) ∧ Below w.heap.size w w' := by
  have HS := Lib.hid (fun W => uses_str k W)
  have HK := Lib.hid (fun W => uses_any k 107 W)
  have HT := Lib.hid (fun W => uses_any k 116 W)
  have HV := Lib.hid (fun W => uses_any k 118 W)
  have HL := Lib.hid (fun W => uses_any k 108 W)
  obtain ⟨p1, p2, p3, p4, p5⟩ := usS_parts k
  rw [p2] at HK
  rw [p3] at HT
  rw [p4] at HV
  rw [p5] at HL
  have HI := Lib.hid (us_none (k := k))
  unfold opPlainV
  generalize usS k = s at *
  generalize usI k = bi at *
  generalize usK k = bk at *
  generalize usV k = bv at *
  generalize usT k = bt at *
  clear p2 p3 p4 p5
  obtain ⟨W1, hW1, n1, n2, hB⟩ := bx2 w 24 24 #[.int .i64 k, .string key, .string tx, .int .u64 (v : Nat), .int .i64 lim] #[.int .i64 0, .string ⟨#[]⟩, .string ⟨#[]⟩, .int .u64 0, .int .i64 0]
  have HW1 := Lib.hid hW1
  have HB1 := Lib.hid hB
  have c0 : W1.cell? ⟨w.heap.size, 0, none⟩ = some (.int .i64 k) := n1.cell 0 rfl
  have a0 := n1.frozen 0
  have c1 : W1.cell? ⟨w.heap.size, 1, none⟩ = some (.string key) := n1.cell 1 rfl
  have a1 := n1.frozen 1
  have c2 : W1.cell? ⟨w.heap.size, 2, none⟩ = some (.string tx) := n1.cell 2 rfl
  have a2 := n1.frozen 2
  have c3 : W1.cell? ⟨w.heap.size, 3, none⟩ = some (.int .u64 (v : Nat)) := n1.cell 3 rfl
  have a3 := n1.frozen 3
  have c4 : W1.cell? ⟨w.heap.size, 4, none⟩ = some (.int .i64 lim) := n1.cell 4 rfl
  have a4 := n1.frozen 4
  have e0 : W1.cell? ⟨w.heap.size + 1, 0, none⟩ = some (.int .i64 0) := n2.cell 0 rfl
  have f0 := n2.frozen 0
  have e1 : W1.cell? ⟨w.heap.size + 1, 1, none⟩ = some (.string ⟨#[]⟩) := n2.cell 1 rfl
  have f1 := n2.frozen 1
  have e2 : W1.cell? ⟨w.heap.size + 1, 2, none⟩ = some (.string ⟨#[]⟩) := n2.cell 2 rfl
  have f2 := n2.frozen 2
  have e3 : W1.cell? ⟨w.heap.size + 1, 3, none⟩ = some (.int .u64 0) := n2.cell 3 rfl
  have f3 := n2.frozen 3
  have e4 : W1.cell? ⟨w.heap.size + 1, 4, none⟩ = some (.int .i64 0) := n2.cell 4 rfl
  have f4 := n2.frozen 4
  clear n1 n2 hB hW1
  cases bi with
  | false =>
    obtain ⟨i1, i2, i3⟩ := HI.out rfl
    subst i1
    subst i2
    subst i3
    go_enter Tryd.func11, Tryd.ntmps11
    go_upto_region 1 with fail
    rw [← HW1.out]
    clear HW1
    go_wp2_with fail
    refine (HS.out _).mono ?_
    rintro e w4 ⟨rfl, h4⟩
    rw [← h4]
    clear h4
    go_wp2
    refine bodyPost_ret (v := .agg #[.int .i64 0, .string ⟨#[]⟩, .string ⟨#[]⟩, .int .u64 0, .int .i64 0]) (by simp [results, Tryd.results11, go_sem, *]) rfl ?_
    refine ⟨rfl, ?_⟩
    repeat' (first | (with_reducible exact HB1.out) | (with_reducible refine Below.setCell ?_ ?_ _) | exact Nat.le_refl _ | exact Nat.le_succ _)
  | true =>
    cases bk with
    | false =>
      cases bt with
      | false =>
        cases bv with
        | false =>
          go_enter Tryd.func11, Tryd.ntmps11
          go_upto_region 1 with fail
          rw [← HW1.out]
          clear HW1
          go_wp2_with fail
          refine (HS.out _).mono ?_
          rintro e w4 ⟨rfl, h4⟩
          rw [← h4]
          clear h4
          go_wp2_with fail
          refine (HK.out _).mono ?_
          rintro e w4 ⟨rfl, h4⟩
          rw [← h4]
          clear h4
          go_wp2_with fail
          refine (HT.out _).mono ?_
          rintro e w4 ⟨rfl, h4⟩
          rw [← h4]
          clear h4
          go_wp2_with fail
          refine (HV.out _).mono ?_
          rintro e w4 ⟨rfl, h4⟩
          rw [← h4]
          clear h4
          go_wp2_with fail
          refine (HL.out _).mono ?_
          rintro e w4 ⟨rfl, h4⟩
          rw [← h4]
          clear h4
          go_wp2
          refine bodyPost_ret (v := .agg #[.int .i64 k, .string ⟨#[]⟩, .string ⟨#[]⟩, .int .u64 0, .int .i64 0]) (by simp [results, Tryd.results11, go_sem, *]) rfl ?_
          refine ⟨rfl, ?_⟩
          repeat' (first | (with_reducible exact HB1.out) | (with_reducible refine Below.setCell ?_ ?_ _) | exact Nat.le_refl _ | exact Nat.le_succ _)
        | true =>
          go_enter Tryd.func11, Tryd.ntmps11
          go_upto_region 1 with fail
          rw [← HW1.out]
          clear HW1
          go_wp2_with fail
          refine (HS.out _).mono ?_
          rintro e w4 ⟨rfl, h4⟩
          rw [← h4]
          clear h4
          go_wp2_with fail
          refine (HK.out _).mono ?_
          rintro e w4 ⟨rfl, h4⟩
          rw [← h4]
          clear h4
          go_wp2_with fail
          refine (HT.out _).mono ?_
          rintro e w4 ⟨rfl, h4⟩
          rw [← h4]
          clear h4
          go_wp2_with fail
          refine (HV.out _).mono ?_
          rintro e w4 ⟨rfl, h4⟩
          rw [← h4]
          clear h4
          go_wp2_with fail
          refine (HL.out _).mono ?_
          rintro e w4 ⟨rfl, h4⟩
          rw [← h4]
          clear h4
          go_wp2
          refine bodyPost_ret (v := .agg #[.int .i64 k, .string ⟨#[]⟩, .string ⟨#[]⟩, .int .u64 (v : Nat), .int .i64 0]) (by simp [results, Tryd.results11, go_sem, *]) rfl ?_
          refine ⟨rfl, ?_⟩
          repeat' (first | (with_reducible exact HB1.out) | (with_reducible refine Below.setCell ?_ ?_ _) | exact Nat.le_refl _ | exact Nat.le_succ _)
      | true =>
        cases bv with
        | false =>
          go_enter Tryd.func11, Tryd.ntmps11
          go_upto_region 1 with fail
          rw [← HW1.out]
          clear HW1
          go_wp2_with fail
          refine (HS.out _).mono ?_
          rintro e w4 ⟨rfl, h4⟩
          rw [← h4]
          clear h4
          go_wp2_with fail
          refine (HK.out _).mono ?_
          rintro e w4 ⟨rfl, h4⟩
          rw [← h4]
          clear h4
          go_wp2_with fail
          refine (HT.out _).mono ?_
          rintro e w4 ⟨rfl, h4⟩
          rw [← h4]
          clear h4
          go_wp2_with fail
          refine (HV.out _).mono ?_
          rintro e w4 ⟨rfl, h4⟩
          rw [← h4]
          clear h4
          go_wp2_with fail
          refine (HL.out _).mono ?_
          rintro e w4 ⟨rfl, h4⟩
          rw [← h4]
          clear h4
          go_wp2
          refine bodyPost_ret (v := .agg #[.int .i64 k, .string ⟨#[]⟩, .string tx, .int .u64 0, .int .i64 lim]) (by simp [results, Tryd.results11, go_sem, *]) rfl ?_
          refine ⟨rfl, ?_⟩
          repeat' (first | (with_reducible exact HB1.out) | (with_reducible refine Below.setCell ?_ ?_ _) | exact Nat.le_refl _ | exact Nat.le_succ _)
        | true =>
          go_enter Tryd.func11, Tryd.ntmps11
          go_upto_region 1 with fail
          rw [← HW1.out]
          clear HW1
          go_wp2_with fail
          refine (HS.out _).mono ?_
          rintro e w4 ⟨rfl, h4⟩
          rw [← h4]
          clear h4
          go_wp2_with fail
          refine (HK.out _).mono ?_
          rintro e w4 ⟨rfl, h4⟩
          rw [← h4]
          clear h4
          go_wp2_with fail
          refine (HT.out _).mono ?_
          rintro e w4 ⟨rfl, h4⟩
          rw [← h4]
          clear h4
          go_wp2_with fail
          refine (HV.out _).mono ?_
          rintro e w4 ⟨rfl, h4⟩
          rw [← h4]
          clear h4
          go_wp2_with fail
          refine (HL.out _).mono ?_
          rintro e w4 ⟨rfl, h4⟩
          rw [← h4]
          clear h4
          go_wp2
          refine bodyPost_ret (v := .agg #[.int .i64 k, .string ⟨#[]⟩, .string tx, .int .u64 (v : Nat), .int .i64 lim]) (by simp [results, Tryd.results11, go_sem, *]) rfl ?_
          refine ⟨rfl, ?_⟩
          repeat' (first | (with_reducible exact HB1.out) | (with_reducible refine Below.setCell ?_ ?_ _) | exact Nat.le_refl _ | exact Nat.le_succ _)
    | true =>
      cases bt with
      | false =>
        cases bv with
        | false =>
          go_enter Tryd.func11, Tryd.ntmps11
          go_upto_region 1 with fail
          rw [← HW1.out]
          clear HW1
          go_wp2_with fail
          refine (HS.out _).mono ?_
          rintro e w4 ⟨rfl, h4⟩
          rw [← h4]
          clear h4
          go_wp2_with fail
          refine (HK.out _).mono ?_
          rintro e w4 ⟨rfl, h4⟩
          rw [← h4]
          clear h4
          go_wp2_with fail
          refine (HT.out _).mono ?_
          rintro e w4 ⟨rfl, h4⟩
          rw [← h4]
          clear h4
          go_wp2_with fail
          refine (HV.out _).mono ?_
          rintro e w4 ⟨rfl, h4⟩
          rw [← h4]
          clear h4
          go_wp2_with fail
          refine (HL.out _).mono ?_
          rintro e w4 ⟨rfl, h4⟩
          rw [← h4]
          clear h4
          go_wp2
          refine bodyPost_ret (v := .agg #[.int .i64 k, .string key, .string ⟨#[]⟩, .int .u64 0, .int .i64 0]) (by simp [results, Tryd.results11, go_sem, *]) rfl ?_
          refine ⟨rfl, ?_⟩
          repeat' (first | (with_reducible exact HB1.out) | (with_reducible refine Below.setCell ?_ ?_ _) | exact Nat.le_refl _ | exact Nat.le_succ _)
        | true =>
          go_enter Tryd.func11, Tryd.ntmps11
          go_upto_region 1 with fail
          rw [← HW1.out]
          clear HW1
          go_wp2_with fail
          refine (HS.out _).mono ?_
          rintro e w4 ⟨rfl, h4⟩
          rw [← h4]
          clear h4
          go_wp2_with fail
          refine (HK.out _).mono ?_
          rintro e w4 ⟨rfl, h4⟩
          rw [← h4]
          clear h4
          go_wp2_with fail
          refine (HT.out _).mono ?_
          rintro e w4 ⟨rfl, h4⟩
          rw [← h4]
          clear h4
          go_wp2_with fail
          refine (HV.out _).mono ?_
          rintro e w4 ⟨rfl, h4⟩
          rw [← h4]
          clear h4
          go_wp2_with fail
          refine (HL.out _).mono ?_
          rintro e w4 ⟨rfl, h4⟩
          rw [← h4]
          clear h4
          go_wp2
          refine bodyPost_ret (v := .agg #[.int .i64 k, .string key, .string ⟨#[]⟩, .int .u64 (v : Nat), .int .i64 0]) (by simp [results, Tryd.results11, go_sem, *]) rfl ?_
          refine ⟨rfl, ?_⟩
          repeat' (first | (with_reducible exact HB1.out) | (with_reducible refine Below.setCell ?_ ?_ _) | exact Nat.le_refl _ | exact Nat.le_succ _)
      | true =>
        cases bv with
        | false =>
          go_enter Tryd.func11, Tryd.ntmps11
          go_upto_region 1 with fail
          rw [← HW1.out]
          clear HW1
          go_wp2_with fail
          refine (HS.out _).mono ?_
          rintro e w4 ⟨rfl, h4⟩
          rw [← h4]
          clear h4
          go_wp2_with fail
          refine (HK.out _).mono ?_
          rintro e w4 ⟨rfl, h4⟩
          rw [← h4]
          clear h4
          go_wp2_with fail
          refine (HT.out _).mono ?_
          rintro e w4 ⟨rfl, h4⟩
          rw [← h4]
          clear h4
          go_wp2_with fail
          refine (HV.out _).mono ?_
          rintro e w4 ⟨rfl, h4⟩
          rw [← h4]
          clear h4
          go_wp2_with fail
          refine (HL.out _).mono ?_
          rintro e w4 ⟨rfl, h4⟩
          rw [← h4]
          clear h4
          go_wp2
          refine bodyPost_ret (v := .agg #[.int .i64 k, .string key, .string tx, .int .u64 0, .int .i64 lim]) (by simp [results, Tryd.results11, go_sem, *]) rfl ?_
          refine ⟨rfl, ?_⟩
          repeat' (first | (with_reducible exact HB1.out) | (with_reducible refine Below.setCell ?_ ?_ _) | exact Nat.le_refl _ | exact Nat.le_succ _)
        | true =>
          go_enter Tryd.func11, Tryd.ntmps11
          go_upto_region 1 with fail
          rw [← HW1.out]
          clear HW1
          go_wp2_with fail
          refine (HS.out _).mono ?_
          rintro e w4 ⟨rfl, h4⟩
          rw [← h4]
          clear h4
          go_wp2_with fail
          refine (HK.out _).mono ?_
          rintro e w4 ⟨rfl, h4⟩
          rw [← h4]
          clear h4
          go_wp2_with fail
          refine (HT.out _).mono ?_
          rintro e w4 ⟨rfl, h4⟩
          rw [← h4]
          clear h4
          go_wp2_with fail
          refine (HV.out _).mono ?_
          rintro e w4 ⟨rfl, h4⟩
          rw [← h4]
          clear h4
          go_wp2_with fail
          refine (HL.out _).mono ?_
          rintro e w4 ⟨rfl, h4⟩
          rw [← h4]
          clear h4
          go_wp2
          refine bodyPost_ret (v := .agg #[.int .i64 k, .string key, .string tx, .int .u64 (v : Nat), .int .i64 lim]) (by simp [results, Tryd.results11, go_sem, *]) rfl ?_
          refine ⟨rfl, ?_⟩
          repeat' (first | (with_reducible exact HB1.out) | (with_reducible refine Below.setCell ?_ ?_ _) | exact Nat.le_refl _ | exact Nat.le_succ _)

/-- A kind's name. -/
def opNameS (k : Int) : ByteArray := if k = 1 then ⟨#[103, 101, 116]⟩ else if k = 2 then ⟨#[105, 110, 115, 101, 114, 116]⟩ else if k = 3 then ⟨#[112, 117, 116]⟩ else if k = 4 then ⟨#[100, 101, 108, 101, 116, 101]⟩ else if k = 5 then ⟨#[100, 114, 111, 112]⟩ else if k = 6 then ⟨#[109, 105, 110]⟩ else if k = 7 then ⟨#[109, 97, 120]⟩ else if k = 8 then ⟨#[110, 101, 120, 116]⟩ else if k = 9 then ⟨#[112, 114, 101, 118]⟩ else if k = 10 then ⟨#[115, 99, 97, 110]⟩ else ⟨#[]⟩
/-- The table of names, in its place. -/
def NamesAt (w : World) : Prop := (w.cell? ⟨0, 0, none⟩ = some (.string ⟨#[]⟩) ∧ w.cell? ⟨0, 1, none⟩ = some (.string ⟨#[103, 101, 116]⟩) ∧ w.cell? ⟨0, 2, none⟩ = some (.string ⟨#[105, 110, 115, 101, 114, 116]⟩) ∧ w.cell? ⟨0, 3, none⟩ = some (.string ⟨#[112, 117, 116]⟩) ∧ w.cell? ⟨0, 4, none⟩ = some (.string ⟨#[100, 101, 108, 101, 116, 101]⟩) ∧ w.cell? ⟨0, 5, none⟩ = some (.string ⟨#[100, 114, 111, 112]⟩) ∧ w.cell? ⟨0, 6, none⟩ = some (.string ⟨#[109, 105, 110]⟩) ∧ w.cell? ⟨0, 7, none⟩ = some (.string ⟨#[109, 97, 120]⟩) ∧ w.cell? ⟨0, 8, none⟩ = some (.string ⟨#[110, 101, 120, 116]⟩) ∧ w.cell? ⟨0, 9, none⟩ = some (.string ⟨#[112, 114, 101, 118]⟩) ∧ w.cell? ⟨0, 10, none⟩ = some (.string ⟨#[115, 99, 97, 110]⟩)) ∧ 0 < w.heap.size
theorem NamesAt.below {w w' : World} (h : NamesAt w) (hb : Below w.heap.size w w') : NamesAt w' := by
  have e : ∀ i : Nat, w'.cell? ⟨0, i, none⟩ = w.cell? ⟨0, i, none⟩ := fun i => World.cell?_of_block (w := w) (hb.block 0 h.2)
  have hs := hb.size
  obtain ⟨⟨h0, h1, h2, h3, h4, h5, h6, h7, h8, h9, h10⟩, hp⟩ := h
  exact ⟨⟨(e 0).trans h0, (e 1).trans h1, (e 2).trans h2, (e 3).trans h3, (e 4).trans h4, (e 5).trans h5, (e 6).trans h6, (e 7).trans h7, (e 8).trans h8, (e 9).trans h9, (e 10).trans h10⟩, by omega⟩

set_option maxHeartbeats 4000000 in
set_option maxRecDepth 100000 in
theorem opName_any (k : Int) (w : World) (ht : NamesAt w) : Calls Tryd.prog 14 #[.int .i64 k] w fun e w' => e = .returned (.string (opNameS k)) ∧ w = w' := by
  obtain ⟨⟨h0, h1, h2, h3, h4, h5, h6, h7, h8, h9, h10⟩, hp⟩ := ht
  clear hp
  by_cases hz : k = 0
  · subst hz
    go_enter Tryd.func14, Tryd.ntmps14
    go_wp2
    go_ret
    exact ⟨rfl, rfl⟩
  rcases kinds k with rfl | rfl | rfl | rfl | rfl | rfl | rfl | rfl | rfl | rfl | h
  case inr.inr.inr.inr.inr.inr.inr.inr.inr.inr =>
    have hn : opNameS k = ⟨#[]⟩ := by
      unfold opNameS
      rw [if_neg (by omega), if_neg (by omega), if_neg (by omega), if_neg (by omega), if_neg (by omega), if_neg (by omega), if_neg (by omega), if_neg (by omega), if_neg (by omega), if_neg (by omega)]
    rw [hn]
    clear hn
    by_cases hl : k < 0
    · clear hz h
      go_enter Tryd.func14, Tryd.ntmps14
      go_wp2
      go_ret
      exact ⟨rfl, rfl⟩
    · have hg : 11 ≤ k := by omega
      clear hz h
      go_enter Tryd.func14, Tryd.ntmps14
      go_wp2
      go_ret
      exact ⟨rfl, rfl⟩
  all_goals
    clear hz
    go_enter Tryd.func14, Tryd.ntmps14
    go_wp2
    go_ret
    exact ⟨rfl, rfl⟩

set_option maxHeartbeats 4000000 in
set_option maxRecDepth 100000 in
theorem rname_any (k : Int) (w : World) : Calls Tryd.prog 15 #[.int .i64 k] w fun e w' => e = .returned (.string (opNameS k)) ∧ Below w.heap.size w w' := by
  by_cases hz : k = 0
  · subst hz
    go_enter Tryd.func15, Tryd.ntmps15
    go_wp2
    go_ret
    exact ⟨rfl, boxed_below _ _⟩
  rcases kinds k with rfl | rfl | rfl | rfl | rfl | rfl | rfl | rfl | rfl | rfl | h
  case inr.inr.inr.inr.inr.inr.inr.inr.inr.inr =>
    have hn : opNameS k = ⟨#[]⟩ := by
      unfold opNameS
      rw [if_neg (by omega), if_neg (by omega), if_neg (by omega), if_neg (by omega), if_neg (by omega), if_neg (by omega), if_neg (by omega), if_neg (by omega), if_neg (by omega), if_neg (by omega)]
    rw [hn]
    clear hn
    by_cases hl : k < 0
    · clear hz h
      go_enter Tryd.func15, Tryd.ntmps15
      go_wp2
      go_ret
      exact ⟨rfl, boxed_below _ _⟩
    · have hg : 11 ≤ k := by omega
      clear hz h
      go_enter Tryd.func15, Tryd.ntmps15
      go_wp2
      go_ret
      exact ⟨rfl, boxed_below _ _⟩
  all_goals
    clear hz
    go_enter Tryd.func15, Tryd.ntmps15
    go_wp2
    go_ret
    exact ⟨rfl, boxed_below _ _⟩
end Go.Proofs.YtmkglaghnjnooaaDoor
