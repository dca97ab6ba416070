/- Boxes of any struct; op.isKey, isEnd, isLimit, kept, used; bowerref16.Uses, uses; bowerref10.Key. Condition: texts that fit. -/
import Derived.Test.YtmkglaghnjnooaaDoorKeyRest
import Derived.Test.YtmkglaghnjnooaaDoorKeyRef
import Derived.Lib.Hide
import Derived.Deep.RegionHeldLaw
import Derived.Deep.DeepCutAuto
namespace Go.Proofs.YtmkglaghnjnooaaDoor
open Go.RowKit

/-- A struct's box. -/
def BX (V : World) (A : Nat) (t : TypeId) (cs : Array Value) : Prop := V.heap[A]? = some (.cells cs t (0, 0))
theorem BX.below {V V' : World} {A : Nat} {t : TypeId} {cs : Array Value} (h : BX V A t cs) (hb : Below V.heap.size V V') : BX V' A t cs := (hb.block A (lt_of_block h)).trans h
theorem BX.new (V : World) (t : TypeId) (cs : Array Value) : BX (V.alloc (.cells cs t)) V.heap.size t cs := heap_alloc_new V _
theorem BX.cell {V : World} {A : Nat} {t : TypeId} {cs : Array Value} (h : BX V A t cs) (i : Nat) {v : Value} (hv : cs[i]? = some v) : V.cell? ⟨A, i, none⟩ = some v := by
  unfold BX at h
  simp [World.cell?, h, hv]
theorem BX.frozen {V : World} {A : Nat} {t : TypeId} {cs : Array Value} (h : BX V A t cs) (i : Nat) : V.frozen? ⟨A, i, none⟩ = false := by
  unfold BX at h
  simp [World.frozen?, h]
theorem bx2 (w : World) (t1 t2 : TypeId) (c1 c2 : Array Value) : ∃ W, W = (w.alloc (.cells c1 t1)).alloc (.cells c2 t2) ∧ BX W w.heap.size t1 c1 ∧ BX W (w.heap.size + 1) t2 c2 ∧ Below w.heap.size w W := by
  refine ⟨_, rfl, ?_, ?_, ((Below.refl _ _).alloc (Nat.le_refl _) _).alloc (by rw [World.size_alloc]; omega) _⟩
  · exact (BX.new w t1 c1).below ((Below.refl _ _).alloc (Nat.le_refl _) _)
  · have h := BX.new (w.alloc (.cells c1 t1)) t2 c2
    rw [World.size_alloc] at h
    exact h

def opKeyB (k : ByteArray) : Bool := decide (1 ≤ k.size ∧ k.size ≤ 64)
def limB (n : Int) : Bool := decide (0 ≤ n ∧ n ≤ 4096)
def usI (k : Int) : Bool := decide (1 ≤ k ∧ k ≤ 10)
def usK (k : Int) : Bool := decide ((1 ≤ k ∧ k ≤ 5) ∨ (8 ≤ k ∧ k ≤ 10))
def usV (k : Int) : Bool := decide (k = 2 ∨ k = 3 ∨ k = 5)
def usT (k : Int) : Bool := decide (k = 10)
/-- Which parts an operation uses, as letters. -/
def usS (k : Int) : ByteArray := if k = 1 ∨ k = 4 ∨ k = 8 ∨ k = 9 then ⟨#[107]⟩ else if k = 2 ∨ k = 3 ∨ k = 5 then ⟨#[107, 118]⟩ else if k = 6 ∨ k = 7 then ⟨#[45]⟩ else if k = 10 then ⟨#[107, 116, 108]⟩ else ⟨#[]⟩

theorem kinds (k : Int) : k = 1 ∨ k = 2 ∨ k = 3 ∨ k = 4 ∨ k = 5 ∨ k = 6 ∨ k = 7 ∨ k = 8 ∨ k = 9 ∨ k = 10 ∨ (k < 1 ∨ 10 < k) := by omega

theorem isKey_any (k : ByteArray) (w : World) : Calls Tryd.prog 26 #[.string k] w fun e w' => e = .returned (.bool (opKeyB k)) ∧ w' = w := by
  have hc := check_any k w
  by_cases h : k.size = 0 ∨ 64 < k.size
  · rw [if_pos h] at hc
    have hk : opKeyB k = false := by unfold opKeyB; rw [decide_eq_false_iff_not]; omega
    rw [hk]
    clear h hk
    go_enter Tryd.func26, Tryd.ntmps26
    go_wp2_with fail
    refine hc.mono ?_
    rintro e w' ⟨rfl, rfl⟩
    go_wp2
    go_ret
    exact ⟨rfl, rfl⟩
  · rw [if_neg h] at hc
    have hk : opKeyB k = true := by unfold opKeyB; rw [decide_eq_true_iff]; omega
    rw [hk]
    clear h hk
    go_enter Tryd.func26, Tryd.ntmps26
    go_wp2_with fail
    refine hc.mono ?_
    rintro e w' ⟨rfl, rfl⟩
    go_wp2
    go_ret
    exact ⟨rfl, rfl⟩

theorem rkey_any (k : ByteArray) (w : World) : Calls Tryd.prog 31 #[.string k] w fun e w' => e = .returned (.bool (opKeyB k)) ∧ w = w' := by
  by_cases h1 : 1 ≤ k.size
  · by_cases h2 : k.size ≤ 64
    · have hk : opKeyB k = true := by unfold opKeyB; rw [decide_eq_true_iff]; omega
      have g1 : (1 : Int) ≤ (k.size : Int) := by omega
      have g2 : (k.size : Int) ≤ 64 := by omega
      rw [hk]
      clear h1 h2 hk
      go_enter Tryd.func31, Tryd.ntmps31
      go_wp2
      go_ret
      exact ⟨rfl, rfl⟩
    · have hk : opKeyB k = false := by unfold opKeyB; rw [decide_eq_false_iff_not]; omega
      have g1 : (1 : Int) ≤ (k.size : Int) := by omega
      have g2 : ¬ (k.size : Int) ≤ 64 := by omega
      rw [hk]
      clear h1 h2 hk
      go_enter Tryd.func31, Tryd.ntmps31
      go_wp2
      go_ret
      exact ⟨rfl, rfl⟩
  · have hk : opKeyB k = false := by unfold opKeyB; rw [decide_eq_false_iff_not]; omega
    have g1 : ¬ (1 : Int) ≤ (k.size : Int) := by omega
    rw [hk]
    clear h1 hk
    go_enter Tryd.func31, Tryd.ntmps31
    go_wp2
    go_ret
    exact ⟨rfl, rfl⟩

/-- A range's end: a key that is not less than where the range begins. -/
def endB (tx key : ByteArray) : Bool := opKeyB tx && !(lss tx.data.toList key.data.toList)
theorem isEnd_any (tx key : ByteArray) (w : World) (h1 : tx.size ≤ 140737488355328) (h2 : key.size ≤ 140737488355328) : Calls Tryd.prog 27 #[.string tx, .string key] w fun e w' => e = .returned (.bool (endB tx key)) ∧ Drew w w' := by
  have HC := Lib.hid (fun W => compare_any key tx W h2 h1)
  have HK := Lib.hid (fun W => isKey_any tx W)
  unfold endB
  cases hk : opKeyB tx with
  | false =>
    rw [hk] at HK
    clear hk
    go_enter Tryd.func27, Tryd.ntmps27
    go_wp2_with fail
    refine (HK.out _).mono ?_
    rintro e w' ⟨rfl, rfl⟩
    go_wp2
    go_ret
    exact ⟨rfl, Drew.refl _⟩
  | true =>
    rw [hk] at HK
    clear hk
    cases hl : lss tx.data.toList key.data.toList with
    | true =>
      have hc : cmp3 key.data.toList tx.data.toList = 1 := by unfold cmp3; simp [hl, lss_asymm _ _ hl]
      rw [hc] at HC
      clear hc hl
      go_enter Tryd.func27, Tryd.ntmps27
      go_wp2_with fail
      refine (HK.out _).mono ?_
      rintro e w' ⟨rfl, rfl⟩
      go_wp2_with fail
      refine (HC.out _).mono ?_
      rintro e w2 ⟨rfl, hd⟩
      go_wp2
      go_ret
      exact ⟨rfl, hd⟩
    | false =>
      have hc : cmp3 key.data.toList tx.data.toList ≤ 0 := by unfold cmp3; split <;> (try split) <;> simp_all
      generalize cmp3 key.data.toList tx.data.toList = c at *
      clear hl
      go_enter Tryd.func27, Tryd.ntmps27
      go_wp2_with fail
      refine (HK.out _).mono ?_
      rintro e w' ⟨rfl, rfl⟩
      go_wp2_with fail
      refine (HC.out _).mono ?_
      rintro e w2 ⟨rfl, hd⟩
      go_wp2
      go_ret
      exact ⟨rfl, hd⟩

theorem isLimit_any (n : Int) (w : World) : Calls Tryd.prog 28 #[.int .i64 n] w fun e w' => e = .returned (.bool (limB n)) ∧ w = w' := by
  by_cases h1 : 0 ≤ n
  · by_cases h2 : n ≤ 4096
    · rw [show limB n = true by unfold limB; rw [decide_eq_true_iff]; omega]
      go_enter Tryd.func28, Tryd.ntmps28
      go_wp2
      go_ret
      exact ⟨rfl, rfl⟩
    · rw [show limB n = false by unfold limB; rw [decide_eq_false_iff_not]; omega]
      go_enter Tryd.func28, Tryd.ntmps28
      go_wp2
      go_ret
      exact ⟨rfl, rfl⟩
  · rw [show limB n = false by unfold limB; rw [decide_eq_false_iff_not]; omega]
    go_enter Tryd.func28, Tryd.ntmps28
    go_wp2
    go_ret
    exact ⟨rfl, rfl⟩

theorem kept_int (b : Bool) (x : Int) (w : World) : Calls Tryd.prog 33 #[.bool b, .int .i64 x] w fun e w' => e = .returned (.int .i64 (if b = true then x else 0)) ∧ w = w' := by
  cases b with
  | false =>
    rw [if_neg (by decide)]
    go_enter Tryd.func33, Tryd.ntmps33
    go_wp2
    go_ret
    exact ⟨rfl, rfl⟩
  | true =>
    rw [if_pos rfl]
    go_enter Tryd.func33, Tryd.ntmps33
    go_wp2
    go_ret
    exact ⟨rfl, rfl⟩
theorem kept_uint64 (b : Bool) (x : Nat) (w : World) : Calls Tryd.prog 35 #[.bool b, .int .u64 x] w fun e w' => e = .returned (.int .u64 (if b = true then x else 0)) ∧ w = w' := by
  cases b with
  | false =>
    rw [if_neg (by decide)]
    go_enter Tryd.func35, Tryd.ntmps35
    go_wp2
    go_ret
    exact ⟨rfl, rfl⟩
  | true =>
    rw [if_pos rfl]
    go_enter Tryd.func35, Tryd.ntmps35
    go_wp2
    go_ret
    exact ⟨rfl, rfl⟩
theorem kept_string (b : Bool) (x : ByteArray) (w : World) : Calls Tryd.prog 34 #[.bool b, .string x] w fun e w' => e = .returned (.string (if b = true then x else ⟨#[]⟩)) ∧ w = w' := by
  cases b with
  | false =>
    rw [if_neg (by decide)]
    go_enter Tryd.func34, Tryd.ntmps34
    go_wp2
    go_ret
    exact ⟨rfl, rfl⟩
  | true =>
    rw [if_pos rfl]
    go_enter Tryd.func34, Tryd.ntmps34
    go_wp2
    go_ret
    exact ⟨rfl, rfl⟩

def partsV (k : Int) : Array Value := #[.bool (usI k), .bool (usK k), .bool (usV k), .bool (usT k), .bool (usT k)]
set_option maxHeartbeats 4000000 in
set_option maxRecDepth 100000 in
theorem used_any (k : Int) (w : World) : Calls Tryd.prog 25 #[.int .i64 k] w fun e w' => e = .returned (.agg (partsV k)) ∧ Below w.heap.size w w' := by
  obtain ⟨W, hW, n1, n2, hB⟩ := bx2 w 53 53 #[.bool false, .bool false, .bool false, .bool false, .bool false] #[.bool false, .bool false, .bool false, .bool false, .bool false]
  have HW := Lib.hid hW
  have HB := Lib.hid hB
  have c0 : W.cell? ⟨w.heap.size, 0, none⟩ = some (.bool false) := n1.cell 0 rfl
  have c1 : W.cell? ⟨w.heap.size, 1, none⟩ = some (.bool false) := n1.cell 1 rfl
  have c2 : W.cell? ⟨w.heap.size, 2, none⟩ = some (.bool false) := n1.cell 2 rfl
  have c3 : W.cell? ⟨w.heap.size, 3, none⟩ = some (.bool false) := n1.cell 3 rfl
  have c4 : W.cell? ⟨w.heap.size, 4, none⟩ = some (.bool false) := n1.cell 4 rfl
  have d0 : W.cell? ⟨w.heap.size + 1, 0, none⟩ = some (.bool false) := n2.cell 0 rfl
  have d1 : W.cell? ⟨w.heap.size + 1, 1, none⟩ = some (.bool false) := n2.cell 1 rfl
  have d2 : W.cell? ⟨w.heap.size + 1, 2, none⟩ = some (.bool false) := n2.cell 2 rfl
  have d3 : W.cell? ⟨w.heap.size + 1, 3, none⟩ = some (.bool false) := n2.cell 3 rfl
  have d4 : W.cell? ⟨w.heap.size + 1, 4, none⟩ = some (.bool false) := n2.cell 4 rfl
  have f0 := n1.frozen 0
  have f1 := n1.frozen 1
  have f2 := n1.frozen 2
  have f3 := n1.frozen 3
  have f4 := n1.frozen 4
  have g0 := n2.frozen 0
  have g1 := n2.frozen 1
  have g2 := n2.frozen 2
  have g3 := n2.frozen 3
  have g4 := n2.frozen 4
  clear n1 n2 hB hW
  rcases kinds k with rfl | rfl | rfl | rfl | rfl | rfl | rfl | rfl | rfl | rfl | h
  case inr.inr.inr.inr.inr.inr.inr.inr.inr.inr =>
    have hp : partsV k = #[.bool false, .bool false, .bool false, .bool false, .bool false] := by
      unfold partsV usI usK usV usT
      rw [decide_eq_false (by omega), decide_eq_false (by omega), decide_eq_false (by omega), decide_eq_false (by omega)]
    rw [hp]
    clear hp
    have e1 : (k == 1) = false := by rw [beq_eq_false_iff_ne]; omega
    have e2 : (k == 2) = false := by rw [beq_eq_false_iff_ne]; omega
    have e3 : (k == 3) = false := by rw [beq_eq_false_iff_ne]; omega
    have e4 : (k == 4) = false := by rw [beq_eq_false_iff_ne]; omega
    have e5 : (k == 5) = false := by rw [beq_eq_false_iff_ne]; omega
    have e6 : (k == 6) = false := by rw [beq_eq_false_iff_ne]; omega
    have e7 : (k == 7) = false := by rw [beq_eq_false_iff_ne]; omega
    have e8 : (k == 8) = false := by rw [beq_eq_false_iff_ne]; omega
    have e9 : (k == 9) = false := by rw [beq_eq_false_iff_ne]; omega
    have e10 : (k == 10) = false := by rw [beq_eq_false_iff_ne]; omega
    clear h
    go_enter Tryd.func25, Tryd.ntmps25
    go_upto_region 2 with fail
    rw [← HW.out]
    clear HW
    go_wp2
    first
      | (refine bodyPost_ret (v := .agg #[.bool false, .bool false, .bool false, .bool false, .bool false]) (by simp [results, Tryd.results25, go_sem, *]) rfl ?_)
    refine ⟨by first | (unfold partsV usI usK usV usT; rfl) | rfl, ?_⟩
    repeat' (first | (with_reducible exact HB.out) | (with_reducible refine Below.setCell ?_ ?_ _) | exact Nat.le_refl _ | exact Nat.le_succ _)
  · go_enter Tryd.func25, Tryd.ntmps25
    go_upto_region 2 with fail
    rw [← HW.out]
    clear HW
    go_wp2
    first
      | (refine bodyPost_ret (v := .agg #[.bool true, .bool true, .bool false, .bool false, .bool false]) (by simp [results, Tryd.results25, go_sem, *]) rfl ?_)
    refine ⟨by first | (unfold partsV usI usK usV usT; rfl) | rfl, ?_⟩
    repeat' (first | (with_reducible exact HB.out) | (with_reducible refine Below.setCell ?_ ?_ _) | exact Nat.le_refl _ | exact Nat.le_succ _)
  · go_enter Tryd.func25, Tryd.ntmps25
    go_upto_region 2 with fail
    rw [← HW.out]
    clear HW
    go_wp2
    first
      | (refine bodyPost_ret (v := .agg #[.bool true, .bool true, .bool true, .bool false, .bool false]) (by simp [results, Tryd.results25, go_sem, *]) rfl ?_)
    refine ⟨by first | (unfold partsV usI usK usV usT; rfl) | rfl, ?_⟩
    repeat' (first | (with_reducible exact HB.out) | (with_reducible refine Below.setCell ?_ ?_ _) | exact Nat.le_refl _ | exact Nat.le_succ _)
  · go_enter Tryd.func25, Tryd.ntmps25
    go_upto_region 2 with fail
    rw [← HW.out]
    clear HW
    go_wp2
    first
      | (refine bodyPost_ret (v := .agg #[.bool true, .bool true, .bool true, .bool false, .bool false]) (by simp [results, Tryd.results25, go_sem, *]) rfl ?_)
    refine ⟨by first | (unfold partsV usI usK usV usT; rfl) | rfl, ?_⟩
    repeat' (first | (with_reducible exact HB.out) | (with_reducible refine Below.setCell ?_ ?_ _) | exact Nat.le_refl _ | exact Nat.le_succ _)
  · go_enter Tryd.func25, Tryd.ntmps25
    go_upto_region 2 with fail
    rw [← HW.out]
    clear HW
    go_wp2
    first
      | (refine bodyPost_ret (v := .agg #[.bool true, .bool true, .bool false, .bool false, .bool false]) (by simp [results, Tryd.results25, go_sem, *]) rfl ?_)
    refine ⟨by first | (unfold partsV usI usK usV usT; rfl) | rfl, ?_⟩
    repeat' (first | (with_reducible exact HB.out) | (with_reducible refine Below.setCell ?_ ?_ _) | exact Nat.le_refl _ | exact Nat.le_succ _)
  · go_enter Tryd.func25, Tryd.ntmps25
    go_upto_region 2 with fail
    rw [← HW.out]
    clear HW
    go_wp2
    first
      | (refine bodyPost_ret (v := .agg #[.bool true, .bool true, .bool true, .bool false, .bool false]) (by simp [results, Tryd.results25, go_sem, *]) rfl ?_)
    refine ⟨by first | (unfold partsV usI usK usV usT; rfl) | rfl, ?_⟩
    repeat' (first | (with_reducible exact HB.out) | (with_reducible refine Below.setCell ?_ ?_ _) | exact Nat.le_refl _ | exact Nat.le_succ _)
  · go_enter Tryd.func25, Tryd.ntmps25
    go_upto_region 2 with fail
    rw [← HW.out]
    clear HW
    go_wp2
    first
      | (refine bodyPost_ret (v := .agg #[.bool true, .bool false, .bool false, .bool false, .bool false]) (by simp [results, Tryd.results25, go_sem, *]) rfl ?_)
    refine ⟨by first | (unfold partsV usI usK usV usT; rfl) | rfl, ?_⟩
    repeat' (first | (with_reducible exact HB.out) | (with_reducible refine Below.setCell ?_ ?_ _) | exact Nat.le_refl _ | exact Nat.le_succ _)
  · go_enter Tryd.func25, Tryd.ntmps25
    go_upto_region 2 with fail
    rw [← HW.out]
    clear HW
    go_wp2
    first
      | (refine bodyPost_ret (v := .agg #[.bool true, .bool false, .bool false, .bool false, .bool false]) (by simp [results, Tryd.results25, go_sem, *]) rfl ?_)
    refine ⟨by first | (unfold partsV usI usK usV usT; rfl) | rfl, ?_⟩
    repeat' (first | (with_reducible exact HB.out) | (with_reducible refine Below.setCell ?_ ?_ _) | exact Nat.le_refl _ | exact Nat.le_succ _)
  · go_enter Tryd.func25, Tryd.ntmps25
    go_upto_region 2 with fail
    rw [← HW.out]
    clear HW
    go_wp2
    first
      | (refine bodyPost_ret (v := .agg #[.bool true, .bool true, .bool false, .bool false, .bool false]) (by simp [results, Tryd.results25, go_sem, *]) rfl ?_)
    refine ⟨by first | (unfold partsV usI usK usV usT; rfl) | rfl, ?_⟩
    repeat' (first | (with_reducible exact HB.out) | (with_reducible refine Below.setCell ?_ ?_ _) | exact Nat.le_refl _ | exact Nat.le_succ _)
  · go_enter Tryd.func25, Tryd.ntmps25
    go_upto_region 2 with fail
    rw [← HW.out]
    clear HW
    go_wp2
    first
      | (refine bodyPost_ret (v := .agg #[.bool true, .bool true, .bool false, .bool false, .bool false]) (by simp [results, Tryd.results25, go_sem, *]) rfl ?_)
    refine ⟨by first | (unfold partsV usI usK usV usT; rfl) | rfl, ?_⟩
    repeat' (first | (with_reducible exact HB.out) | (with_reducible refine Below.setCell ?_ ?_ _) | exact Nat.le_refl _ | exact Nat.le_succ _)
  · go_enter Tryd.func25, Tryd.ntmps25
    go_upto_region 2 with fail
    rw [← HW.out]
    clear HW
    go_wp2
    first
      | (refine bodyPost_ret (v := .agg #[.bool true, .bool true, .bool false, .bool true, .bool true]) (by simp [results, Tryd.results25, go_sem, *]) rfl ?_)
    refine ⟨by first | (unfold partsV usI usK usV usT; rfl) | rfl, ?_⟩
    repeat' (first | (with_reducible exact HB.out) | (with_reducible refine Below.setCell ?_ ?_ _) | exact Nat.le_refl _ | exact Nat.le_succ _)
end Go.Proofs.YtmkglaghnjnooaaDoor
