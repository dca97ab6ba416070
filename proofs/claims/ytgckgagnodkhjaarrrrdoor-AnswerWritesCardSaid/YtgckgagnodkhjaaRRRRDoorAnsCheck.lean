/- answer.Check, Same and Of; the document's Same and Sound; the law's own Light. Conditions: the table of names; rows that are there. -/
import Derived.Test.YtgckgagnodkhjaaRRRRDoorAnsBase
namespace Go.Proofs.YtgckgagnodkhjaaRRRRDoor
open Go.RowKit

theorem str_ne {a : ByteArray} (h : a ≠ ⟨#[]⟩) : (a.toList != []) = true := by
  have := txt_ne h
  simpa [bne] using this
theorem ansName_yes {k : Int} (h : kB k = true) : ((ansName k).toList == []) = false ∧ ((ansName k).toList != []) = true := by
  unfold kB at h
  rw [decide_eq_true_iff] at h
  have : k = 1 ∨ k = 2 ∨ k = 3 ∨ k = 4 ∨ k = 5 ∨ k = 6 := by omega
  rcases this with rfl | rfl | rfl | rfl | rfl | rfl <;> exact ⟨by decide +kernel, by decide +kernel⟩
theorem ansName_no {k : Int} (h : kB k = false) : ((ansName k).toList == []) = true ∧ ((ansName k).toList != []) = false := by
  unfold kB at h
  rw [decide_eq_false_iff_not] at h
  have : ansName k = ⟨#[]⟩ := by
    unfold ansName
    rw [if_neg (by omega), if_neg (by omega), if_neg (by omega), if_neg (by omega), if_neg (by omega), if_neg (by omega)]
  rw [this]; exact ⟨by decide +kernel, by decide +kernel⟩

set_option maxHeartbeats 4000000 in
set_option maxRecDepth 100000 in
theorem ansCheck_any (k v : Int) (key : ByteArray) (ao : Option Addr) (n c : Nat) (ps : List (ByteArray × Int)) (w : World) (hnt : NamesAt17 w) (hr : RdP w (.slice ao n c) ps) :
    Calls Tryd.prog 7 #[.agg #[.int .i64 k, .string key, .int .u64 v, .slice ao n c]] w fun e w' => e = .returned (.int .i64 (if ansSoundB k key ps = true then 0 else 2)) ∧ Below w.heap.size w w' := by
  have n0 := BX.new w 25 #[.int .i64 k, .string key, .int .u64 v, .slice ao n c]
  have hx := boxed_below w (.cells #[.int .i64 k, .string key, .int .u64 v, .slice ao n c] 25)
  obtain ⟨W1, hW1⟩ : ∃ W, W = w.alloc (.cells #[.int .i64 k, .string key, .int .u64 v, .slice ao n c] 25) := ⟨_, rfl⟩
  rw [← hW1] at n0 hx
  have hl := hr.len
  have HNM := Lib.hid (ansName_any k W1 (hnt.below hx))
  have HTX := Lib.hid (fun W => isText_any key W)
  have HAL := Lib.hid (allCheck_any w.heap.size k v key (.slice ao n c) ps n W1 n0 (hr.keep hx) hl.1.symm)
  have HX := Lib.hid hx
  have HW := Lib.hid hW1
  have HY := Lib.hid (ansName_yes (k := k))
  have HZ := Lib.hid (ansName_no (k := k))
  have c0 : W1.cell? ⟨w.heap.size, 0, none⟩ = some (.int .i64 k) := n0.cell 0 rfl
  have c1 : W1.cell? ⟨w.heap.size, 1, none⟩ = some (.string key) := n0.cell 1 rfl
  have c3 : W1.cell? ⟨w.heap.size, 3, none⟩ = some (.slice ao n c) := n0.cell 3 rfl
  unfold ansSoundB
  rw [hl.1]
  have hln : n ≤ 9223372036854775807 := by omega
  clear n0 hx hW1 hnt hr hl
  generalize ansName k = nm at *
  generalize kB k = kb at *
  generalize txB key = ky at *
  generalize (ps.all fun p => txB p.1) = al at *
  cases kb with
  | false =>
    obtain ⟨hq1, hq2⟩ := HZ.out (by first | rfl | trivial)
    clear HY HZ
    go_enter Tryd.func7, Tryd.ntmps7
    go_upto_region 1 with fail
    rw [← HW.out]
    go_wp2_with fail
    refine HNM.out.mono ?_
    rintro e w4 ⟨rfl, h4⟩
    rw [← h4]
    clear h4
    go_wp2
    go_ret
    exact ⟨rfl, HX.out⟩
  | true =>
    obtain ⟨hq1, hq2⟩ := HY.out (by first | rfl | trivial)
    clear HY HZ
    cases ky with
    | false =>
      go_enter Tryd.func7, Tryd.ntmps7
      go_upto_region 1 with fail
      rw [← HW.out]
      go_wp2_with fail
      refine HNM.out.mono ?_
      rintro e w4 ⟨rfl, h4⟩
      rw [← h4]
      clear h4
      go_wp2_with fail
      refine (HTX.out _).mono ?_
      rintro e w4 ⟨rfl, h4⟩
      rw [← h4]
      clear h4
      go_wp2
      go_ret
      exact ⟨rfl, HX.out⟩
    | true =>
      by_cases h9 : n ≤ 4096
      · have g9 : (n : Int) ≤ 4096 := by omega
        rw [decide_eq_true h9]
        clear h9
        go_enter Tryd.func7, Tryd.ntmps7
        go_upto_region 1 with fail
        rw [← HW.out]
        go_wp2_with fail
        refine HNM.out.mono ?_
        rintro e w4 ⟨rfl, h4⟩
        rw [← h4]
        clear h4
        go_wp2_with fail
        refine (HTX.out _).mono ?_
        rintro e w4 ⟨rfl, h4⟩
        rw [← h4]
        clear h4
        go_wp2_with fail
        refine HAL.out.mono ?_
        rintro e w4 ⟨rfl, h4⟩
        rw [← h4]
        clear h4
        cases al
        all_goals
          go_wp2
          go_ret
          exact ⟨rfl, HX.out⟩
      · have g9 : ¬ (n : Int) ≤ 4096 := by omega
        rw [decide_eq_false h9]
        clear h9
        go_enter Tryd.func7, Tryd.ntmps7
        go_upto_region 1 with fail
        rw [← HW.out]
        go_wp2_with fail
        refine HNM.out.mono ?_
        rintro e w4 ⟨rfl, h4⟩
        rw [← h4]
        clear h4
        go_wp2_with fail
        refine (HTX.out _).mono ?_
        rintro e w4 ⟨rfl, h4⟩
        rw [← h4]
        clear h4
        go_wp2
        go_ret
        exact ⟨rfl, HX.out⟩

set_option maxHeartbeats 4000000 in
set_option maxRecDepth 100000 in
theorem ansSame_any (k v k2 v2 : Int) (key key2 : ByteArray) (ao ao2 : Option Addr) (n c m c2 : Nat) (ps qs : List (ByteArray × Int)) (b : Bool) (w : World) (hr : RdP w (.slice ao n c) ps) (hr2 : RdP w (.slice ao2 m c2) qs) (hbb : b = true ↔ (k = k2 ∧ key = key2 ∧ v = v2 ∧ ps = qs)) :
    Calls Tryd.prog 11 #[.agg #[.int .i64 k, .string key, .int .u64 v, .slice ao n c], .agg #[.int .i64 k2, .string key2, .int .u64 v2, .slice ao2 m c2]] w fun e w' => e = .returned (.bool b) ∧ Below w.heap.size w w' := by
  have hn := hr.len
  have hm := hr2.len
  have hx1 := boxed_below w (.cells #[.int .i64 k, .string key, .int .u64 v, .slice ao n c] 25)
  obtain ⟨W1, hW1⟩ : ∃ W, W = (w.alloc (.cells #[.int .i64 k, .string key, .int .u64 v, .slice ao n c] 25)).alloc (.cells #[.int .i64 k2, .string key2, .int .u64 v2, .slice ao2 m c2] 25) := ⟨_, rfl⟩
  obtain ⟨W0, hW0, n1, n2, hB⟩ := bx2 w 25 25 #[.int .i64 k, .string key, .int .u64 v, .slice ao n c] #[.int .i64 k2, .string key2, .int .u64 v2, .slice ao2 m c2]
  obtain rfl : W0 = W1 := hW0.trans hW1.symm
  clear hx1 hW0
  have HX := Lib.hid hB
  have HW := Lib.hid hW1
  have c0 : W0.cell? ⟨w.heap.size, 0, none⟩ = some (.int .i64 k) := n1.cell 0 rfl
  have c1 : W0.cell? ⟨w.heap.size, 1, none⟩ = some (.string key) := n1.cell 1 rfl
  have c2' : W0.cell? ⟨w.heap.size, 2, none⟩ = some (.int .u64 v) := n1.cell 2 rfl
  have c3 : W0.cell? ⟨w.heap.size, 3, none⟩ = some (.slice ao n c) := n1.cell 3 rfl
  have d0 : W0.cell? ⟨w.heap.size + 1, 0, none⟩ = some (.int .i64 k2) := n2.cell 0 rfl
  have d1 : W0.cell? ⟨w.heap.size + 1, 1, none⟩ = some (.string key2) := n2.cell 1 rfl
  have d2 : W0.cell? ⟨w.heap.size + 1, 2, none⟩ = some (.int .u64 v2) := n2.cell 2 rfl
  have d3 : W0.cell? ⟨w.heap.size + 1, 3, none⟩ = some (.slice ao2 m c2) := n2.cell 3 rfl
  have HAL : Hid (n = m → ∀ d, (d = true ↔ ps = qs) → Calls Tryd.prog 22 #[.int .i64 (n : Nat), .func (.func 24) #[] #[.pointer (some ⟨w.heap.size, 0, none⟩), .pointer (some ⟨w.heap.size + 1, 0, none⟩)]] W0 fun e w' => e = .returned (.bool d) ∧ Drew W0 w') := Lib.hid (fun h d hd => allSame_any w.heap.size (w.heap.size + 1) k v k2 v2 key key2 (.slice ao n c) (.slice ao2 m c2) ps qs n d W0 n1 n2 (hr.keep hB) (hr2.keep hB) hn.1.symm (by rw [h]; exact hm.1.symm) hd)
  have HBB := Lib.hid hbb
  have HLN := Lib.hid (And.intro hn.1 hm.1)
  clear n1 n2 hB hW1 hr hr2 hbb hn hm
  by_cases e0 : k = k2
  case neg =>
    have g0 : (k == k2) = false := by rw [beq_eq_false_iff_ne]; exact e0
    have HF : Hid (b = false) := Lib.hid (bool_no17 HBB.out (fun h => e0 h.1))
    clear HBB HAL e0 HLN
    go_enter Tryd.func11, Tryd.ntmps11
    go_upto_region 1 with fail
    rw [← HW.out]
    clear HW
    go_wp2
    go_ret
    exact ⟨by rw [HF.out]; rfl, HX.out⟩
  subst e0
  by_cases e1 : key = key2
  case neg =>
    have g1 := txt_ne e1
    have HF : Hid (b = false) := Lib.hid (bool_no17 HBB.out (fun h => e1 h.2.1))
    clear HBB HAL e1 HLN
    go_enter Tryd.func11, Tryd.ntmps11
    go_upto_region 1 with fail
    rw [← HW.out]
    clear HW
    go_wp2
    go_ret
    exact ⟨by rw [HF.out]; rfl, HX.out⟩
  subst e1
  by_cases e2 : v = v2
  case neg =>
    have g2 : (v == v2) = false := by rw [beq_eq_false_iff_ne]; exact e2
    have HF : Hid (b = false) := Lib.hid (bool_no17 HBB.out (fun h => e2 h.2.2.1))
    clear HBB HAL e2 HLN
    go_enter Tryd.func11, Tryd.ntmps11
    go_upto_region 1 with fail
    rw [← HW.out]
    clear HW
    go_wp2
    go_ret
    exact ⟨by rw [HF.out]; rfl, HX.out⟩
  subst e2
  by_cases e3 : n = m
  case neg =>
    have g3 : ((n : Int) == (m : Int)) = false := by rw [beq_eq_false_iff_ne]; omega
    have HF : Hid (b = false) := Lib.hid (bool_no17 HBB.out (fun h => e3 (by rw [← HLN.out.1, ← HLN.out.2, h.2.2.2])))
    clear HBB HAL e3 HLN
    go_enter Tryd.func11, Tryd.ntmps11
    go_upto_region 1 with fail
    rw [← HW.out]
    clear HW
    go_wp2
    go_ret
    exact ⟨by rw [HF.out]; rfl, HX.out⟩
  subst e3
  have HAL2 := Lib.hid (HAL.out rfl b (HBB.out.trans ⟨fun h => h.2.2.2, fun h => ⟨rfl, rfl, rfl, h⟩⟩))
  clear HAL HBB HLN
  go_enter Tryd.func11, Tryd.ntmps11
  go_upto_region 1 with fail
  rw [← HW.out]
  clear HW
  go_wp2_with fail
  refine HAL2.out.mono ?_
  rintro e w4 ⟨rfl, h4⟩
  have HB4 := Lib.hid (HX.out.trans ((below_of_drew h4 _).mono HX.out.size))
  clear h4
  go_wp2
  go_ret
  exact ⟨rfl, HB4.out⟩

set_option maxHeartbeats 4000000 in
set_option maxRecDepth 100000 in
theorem ransSame_any (k v k2 v2 : Int) (key key2 : ByteArray) (ao ao2 : Option Addr) (n c m c2 : Nat) (ps qs : List (ByteArray × Int)) (b : Bool) (w : World) (hr : RdP w (.slice ao n c) ps) (hr2 : RdP w (.slice ao2 m c2) qs) (hbb : b = true ↔ (k = k2 ∧ key = key2 ∧ v = v2 ∧ ps = qs)) :
    Calls Tryd.prog 9 #[.agg #[.int .i64 k, .string key, .int .u64 v, .slice ao n c], .agg #[.int .i64 k2, .string key2, .int .u64 v2, .slice ao2 m c2]] w fun e w' => e = .returned (.bool b) ∧ Below w.heap.size w w' := by
  have hn := hr.len
  have hm := hr2.len
  have hx1 := boxed_below w (.cells #[.int .i64 k, .string key, .int .u64 v, .slice ao n c] 25)
  obtain ⟨W1, hW1⟩ : ∃ W, W = (w.alloc (.cells #[.int .i64 k, .string key, .int .u64 v, .slice ao n c] 25)).alloc (.cells #[.int .i64 k2, .string key2, .int .u64 v2, .slice ao2 m c2] 25) := ⟨_, rfl⟩
  obtain ⟨W0, hW0, n1, n2, hB⟩ := bx2 w 25 25 #[.int .i64 k, .string key, .int .u64 v, .slice ao n c] #[.int .i64 k2, .string key2, .int .u64 v2, .slice ao2 m c2]
  obtain rfl : W0 = W1 := hW0.trans hW1.symm
  clear hx1 hW0
  have HX := Lib.hid hB
  have HW := Lib.hid hW1
  have c0 : W0.cell? ⟨w.heap.size, 0, none⟩ = some (.int .i64 k) := n1.cell 0 rfl
  have c1 : W0.cell? ⟨w.heap.size, 1, none⟩ = some (.string key) := n1.cell 1 rfl
  have c2' : W0.cell? ⟨w.heap.size, 2, none⟩ = some (.int .u64 v) := n1.cell 2 rfl
  have c3 : W0.cell? ⟨w.heap.size, 3, none⟩ = some (.slice ao n c) := n1.cell 3 rfl
  have d0 : W0.cell? ⟨w.heap.size + 1, 0, none⟩ = some (.int .i64 k2) := n2.cell 0 rfl
  have d1 : W0.cell? ⟨w.heap.size + 1, 1, none⟩ = some (.string key2) := n2.cell 1 rfl
  have d2 : W0.cell? ⟨w.heap.size + 1, 2, none⟩ = some (.int .u64 v2) := n2.cell 2 rfl
  have d3 : W0.cell? ⟨w.heap.size + 1, 3, none⟩ = some (.slice ao2 m c2) := n2.cell 3 rfl
  have HAL : Hid (∀ d, (d = true ↔ ps = qs) → Calls Tryd.prog 23 #[.slice ao n c, .slice ao2 m c2] W0 fun e w' => e = .returned (.bool d) ∧ Drew W0 w') := Lib.hid (fun d hd => rsame_any (.slice ao n c) (.slice ao2 m c2) ps qs W0 (hr.keep hB) (hr2.keep hB) d hd)
  have HBB := Lib.hid hbb
  have HLN := Lib.hid (And.intro hn.1 hm.1)
  clear n1 n2 hB hW1 hr hr2 hbb hn hm
  by_cases e0 : k = k2
  case neg =>
    have g0 : (k == k2) = false := by rw [beq_eq_false_iff_ne]; exact e0
    have HF : Hid (b = false) := Lib.hid (bool_no17 HBB.out (fun h => e0 h.1))
    clear HBB HAL e0 HLN
    go_enter Tryd.func9, Tryd.ntmps9
    go_upto_region 1 with fail
    rw [← HW.out]
    clear HW
    go_wp2
    go_ret
    exact ⟨by rw [HF.out]; rfl, HX.out⟩
  subst e0
  by_cases e1 : key = key2
  case neg =>
    have g1 := txt_ne e1
    have HF : Hid (b = false) := Lib.hid (bool_no17 HBB.out (fun h => e1 h.2.1))
    clear HBB HAL e1 HLN
    go_enter Tryd.func9, Tryd.ntmps9
    go_upto_region 1 with fail
    rw [← HW.out]
    clear HW
    go_wp2
    go_ret
    exact ⟨by rw [HF.out]; rfl, HX.out⟩
  subst e1
  by_cases e2 : v = v2
  case neg =>
    have g2 : (v == v2) = false := by rw [beq_eq_false_iff_ne]; exact e2
    have HF : Hid (b = false) := Lib.hid (bool_no17 HBB.out (fun h => e2 h.2.2.1))
    clear HBB HAL e2 HLN
    go_enter Tryd.func9, Tryd.ntmps9
    go_upto_region 1 with fail
    rw [← HW.out]
    clear HW
    go_wp2
    go_ret
    exact ⟨by rw [HF.out]; rfl, HX.out⟩
  subst e2
  have HAL2 := Lib.hid (HAL.out b (HBB.out.trans ⟨fun h => h.2.2.2, fun h => ⟨rfl, rfl, rfl, h⟩⟩))
  clear HAL HBB HLN
  go_enter Tryd.func9, Tryd.ntmps9
  go_upto_region 1 with fail
  rw [← HW.out]
  clear HW
  go_wp2_with fail
  refine HAL2.out.mono ?_
  rintro e w4 ⟨rfl, h4⟩
  have HB4 := Lib.hid (HX.out.trans ((below_of_drew h4 _).mono HX.out.size))
  clear h4
  go_wp2
  go_ret
  exact ⟨rfl, HB4.out⟩

set_option maxHeartbeats 4000000 in
set_option maxRecDepth 100000 in
theorem ansOf_any (key : ByteArray) (v : Int) (ok : Bool) (w : World) :
    Calls Tryd.prog 8 #[.agg #[.string key, .int .u64 v], .bool ok] w fun e w' => e = .returned (.agg #[.int .i64 (if ok = true then 1 else 2), .string (if ok = true then key else ⟨#[]⟩), .int .u64 (if ok = true then v else 0), .slice none 0 0]) ∧ Below w.heap.size w w' := by
  obtain ⟨W, hW, n1, n2, hB⟩ := bx2 w 32 25 #[.string key, .int .u64 v] #[.int .i64 0, .string ⟨#[]⟩, .int .u64 0, .slice none 0 0]
  have HW := Lib.hid hW
  have HB := Lib.hid hB
  have c0 : W.cell? ⟨w.heap.size, 0, none⟩ = some (.string key) := n1.cell 0 rfl
  have c1 : W.cell? ⟨w.heap.size, 1, none⟩ = some (.int .u64 v) := n1.cell 1 rfl
  have d0 : W.cell? ⟨w.heap.size + 1, 0, none⟩ = some (.int .i64 0) := n2.cell 0 rfl
  have d1 : W.cell? ⟨w.heap.size + 1, 1, none⟩ = some (.string ⟨#[]⟩) := n2.cell 1 rfl
  have d2 : W.cell? ⟨w.heap.size + 1, 2, none⟩ = some (.int .u64 0) := n2.cell 2 rfl
  have d3 : W.cell? ⟨w.heap.size + 1, 3, none⟩ = some (.slice none 0 0) := n2.cell 3 rfl
  have g0 := n2.frozen 0
  have g1 := n2.frozen 1
  have g2 := n2.frozen 2
  have g3 := n2.frozen 3
  clear n1 n2 hB hW
  cases ok with
  | false =>
    rw [if_neg (by decide), if_neg (by decide), if_neg (by decide)]
    go_enter Tryd.func8, Tryd.ntmps8
    go_upto_region 1 with fail
    rw [← HW.out]
    clear HW
    go_wp2
    refine bodyPost_ret (v := .agg #[.int .i64 2, .string ⟨#[]⟩, .int .u64 0, .slice none 0 0]) (by simp [results, Tryd.results8, go_sem, *]) rfl ?_
    refine ⟨rfl, ?_⟩
    repeat' (first | (with_reducible exact HB.out) | (with_reducible refine Below.setCell ?_ ?_ _) | exact Nat.le_refl _ | exact Nat.le_succ _)
  | true =>
    rw [if_pos rfl, if_pos rfl, if_pos rfl]
    go_enter Tryd.func8, Tryd.ntmps8
    go_upto_region 1 with fail
    rw [← HW.out]
    clear HW
    go_wp2
    refine bodyPost_ret (v := .agg #[.int .i64 1, .string key, .int .u64 v, .slice none 0 0]) (by simp [results, Tryd.results8, go_sem, *]) rfl ?_
    refine ⟨rfl, ?_⟩
    repeat' (first | (with_reducible exact HB.out) | (with_reducible refine Below.setCell ?_ ?_ _) | exact Nat.le_refl _ | exact Nat.le_succ _)

set_option maxHeartbeats 4000000 in
set_option maxRecDepth 100000 in
theorem ransSound_any (k v : Int) (key : ByteArray) (ao : Option Addr) (n c : Nat) (ps : List (ByteArray × Int)) (w : World) (hr : RdP w (.slice ao n c) ps) :
    Calls Tryd.prog 10 #[.agg #[.int .i64 k, .string key, .int .u64 v, .slice ao n c]] w fun e w' => e = .returned (.bool (ansSoundB k key ps)) ∧ Below w.heap.size w w' := by
  have n0 := BX.new w 25 #[.int .i64 k, .string key, .int .u64 v, .slice ao n c]
  have hx := boxed_below w (.cells #[.int .i64 k, .string key, .int .u64 v, .slice ao n c] 25)
  obtain ⟨W1, hW1⟩ : ∃ W, W = w.alloc (.cells #[.int .i64 k, .string key, .int .u64 v, .slice ao n c] 25) := ⟨_, rfl⟩
  rw [← hW1] at n0 hx
  have hl := hr.len
  have HX := Lib.hid hx
  have HW := Lib.hid hW1
  have HR := Lib.hid (hr.keep hx)
  have HT : Hid ((∀ j, j < n → txB (ntp ps j).1 = true) → (ps.all fun p => txB p.1) = true) := Lib.hid (fun h => by
    rw [List.all_eq_true]
    intro p hp
    obtain ⟨i, hi, rfl⟩ := List.getElem_of_mem hp
    have := h i (by omega)
    rwa [ntp_eq hi] at this)
  have HF : Hid (∀ i, i < n → txB (ntp ps i).1 = false → (ps.all fun p => txB p.1) = false) := Lib.hid (fun i hi h => by
    rw [List.all_eq_false]
    refine ⟨ps[i]'(by omega), List.getElem_mem _, ?_⟩
    rw [ntp_eq (by omega)] at h
    rw [h]; exact Bool.noConfusion)
  have c0 : W1.cell? ⟨w.heap.size, 0, none⟩ = some (.int .i64 k) := n0.cell 0 rfl
  have c1 : W1.cell? ⟨w.heap.size, 1, none⟩ = some (.string key) := n0.cell 1 rfl
  have c3 : W1.cell? ⟨w.heap.size, 3, none⟩ = some (.slice ao n c) := n0.cell 3 rfl
  unfold ansSoundB
  rw [hl.1]
  have hln : n ≤ 9223372036854775807 := by omega
  have hnc := hl.2.1
  have hcc := hl.2.2
  clear n0 hx hW1 hr hl
  generalize (ps.all fun p => txB p.1) = al at *
  by_cases h0 : 1 ≤ k ∧ k ≤ 6
  case neg =>
    rw [show kB k = false by unfold kB; rw [decide_eq_false_iff_not]; exact h0]
    by_cases h1 : k < 1
    · clear h0
      go_enter Tryd.func10, Tryd.ntmps10
      go_upto_region 1 with fail
      rw [← HW.out]
      go_wp2
      go_ret
      exact ⟨rfl, HX.out⟩
    · have h2 : 6 < k := by omega
      clear h0
      go_enter Tryd.func10, Tryd.ntmps10
      go_upto_region 1 with fail
      rw [← HW.out]
      go_wp2
      go_ret
      exact ⟨rfl, HX.out⟩
  rw [show kB k = true by unfold kB; rw [decide_eq_true_iff]; exact h0]
  have f1 : ¬ k < 1 := by omega
  have f2 : ¬ 6 < k := by omega
  clear h0
  by_cases h3 : key.size ≤ 64
  case neg =>
    have g3 : 64 < (key.size : Int) := by omega
    rw [show txB key = false by unfold txB; rw [decide_eq_false_iff_not]; exact h3]
    clear h3
    go_enter Tryd.func10, Tryd.ntmps10
    go_upto_region 1 with fail
    rw [← HW.out]
    go_wp2
    go_ret
    exact ⟨rfl, HX.out⟩
  have g3 : ¬ 64 < (key.size : Int) := by omega
  rw [show txB key = true by unfold txB; rw [decide_eq_true_iff]; exact h3]
  clear h3
  by_cases h9 : n ≤ 4096
  case neg =>
    have g9 : 4096 < (n : Int) := by omega
    rw [decide_eq_false h9]
    clear h9
    go_enter Tryd.func10, Tryd.ntmps10
    go_upto_region 1 with fail
    rw [← HW.out]
    go_wp2
    go_ret
    exact ⟨rfl, HX.out⟩
  have g9 : ¬ 4096 < (n : Int) := by omega
  rw [decide_eq_true h9]
  clear h9
  go_enter Tryd.func10, Tryd.ntmps10
  go_upto_region 1 with fail
  rw [← HW.out]
  clear HW
  go_wp2
  go_loop [3] (fun s => ∃ i : Nat, s = .int .i64 i ∧ i ≤ n ∧ Hid (∀ j, j < i → txB (ntp ps j).1 = true)) (fun s => n - (intOf s).toNat)
  case atStart => exact ⟨0, rfl, Nat.zero_le _, Lib.hid (fun j hj => absurd hj (Nat.not_lt_zero _))⟩
  case round =>
    obtain ⟨i, rfl, hi, hall⟩ := hrel
    by_cases hlt : i < n
    · obtain ⟨g, q, rfl, hc⟩ := HR.out.at_ i hlt
      have hc1 := (hc i hlt).1
      have hlt' : (i : Int) < n := by omega
      clear hc
      by_cases hk : (ntp ps i).1.size ≤ 64
      · have HNX : Hid (∀ j, j < i + 1 → txB (ntp ps j).1 = true) := Lib.hid (fun j hj => by
          by_cases e : j = i
          · subst e; unfold txB; rw [decide_eq_true_iff]; exact hk
          · exact hall.out j (by omega))
        generalize ntp ps i = p at *
        obtain ⟨s, z⟩ := p
        simp only at hc1 hk
        have gk : ¬ 64 < (s.size : Int) := by omega
        clear hk
        go_wp2
        go_round
        case rel => exact ⟨i + 1, by go_num, by omega, HNX⟩
        case measure => simp [intOf]; omega
      · have HNX := Lib.hid (HF.out i hlt (by unfold txB; rw [decide_eq_false_iff_not]; exact hk))
        generalize ntp ps i = p at *
        obtain ⟨s, z⟩ := p
        simp only at hc1 hk
        have gk : 64 < (s.size : Int) := by omega
        clear hk
        go_wp2
        go_ret
        exact ⟨by rw [HNX.out]; rfl, HX.out⟩
    · obtain rfl : i = n := by omega
      have HNX := Lib.hid (HT.out hall.out)
      go_wp2
      go_ret
      exact ⟨by rw [HNX.out]; rfl, HX.out⟩

def Light17 (w w' : World) (e : Ending) (key : ByteArray) (ps : List (ByteArray × Int)) : Prop :=
  ∃ b, e = .returned (.bool b) ∧ (b = true → key.size ≤ 200 ∧ ps.length ≤ 60 ∧ ∀ p ∈ ps, p.1.size ≤ 200) ∧ Below w.heap.size w w'
set_option maxHeartbeats 4000000 in
set_option maxRecDepth 100000 in
theorem light17_any (k v : Int) (key : ByteArray) (ao : Option Addr) (n c : Nat) (ps : List (ByteArray × Int)) (w : World) (hr : RdP w (.slice ao n c) ps) :
    Calls Tryd.prog 5 #[.agg #[.int .i64 k, .string key, .int .u64 v, .slice ao n c]] w fun e w' => Light17 w w' e key ps := by
  have n0 := BX.new w 25 #[.int .i64 k, .string key, .int .u64 v, .slice ao n c]
  have hx := boxed_below w (.cells #[.int .i64 k, .string key, .int .u64 v, .slice ao n c] 25)
  obtain ⟨W1, hW1⟩ : ∃ W, W = w.alloc (.cells #[.int .i64 k, .string key, .int .u64 v, .slice ao n c] 25) := ⟨_, rfl⟩
  rw [← hW1] at n0 hx
  have hl := hr.len
  have HX := Lib.hid hx
  have HN := Lib.hid n0
  have HW := Lib.hid hW1
  have HR := Lib.hid (hr.keep hx)
  have HL := Lib.hid hl.1
  have c3 : W1.cell? ⟨w.heap.size, 3, none⟩ = some (.slice ao n c) := n0.cell 3 rfl
  have hln : n ≤ 9223372036854775807 := by omega
  have hnc := hl.2.1
  have hcc := hl.2.2
  clear n0 hx hW1 hr hl
  go_enter Tryd.func5, Tryd.ntmps5
  go_upto_region 1 with fail
  rw [← HW.out]
  clear HW
  go_wp2
  go_loopw [8] (fun s wr => ∃ i : Nat, s = .int .i64 i ∧ i ≤ n ∧ Hid (∀ j, j < i → (ntp ps j).1.size ≤ 200) ∧ Hid (Below W1.heap.size W1 wr)) (fun s _ => n - (intOf s).toNat)
  case atStart => exact ⟨0, rfl, Nat.zero_le _, Lib.hid (fun j hj => absurd hj (Nat.not_lt_zero _)), Lib.hid (Below.refl _ _)⟩
  case round =>
    obtain ⟨i, rfl, hi, hall, hb⟩ := hrel
    by_cases hlt : i < n
    · obtain ⟨g, q, rfl, hc⟩ := (HR.out.keep hb.out).at_ i hlt
      have hc1 := (hc i hlt).1
      have hc2 := (hc i hlt).2
      have hlt' : (i : Int) < n := by omega
      clear hc
      by_cases hk : (ntp ps i).1.size ≤ 200
      · have HNX : Hid (∀ j, j < i + 1 → (ntp ps j).1.size ≤ 200) := Lib.hid (fun j hj => by
          by_cases e : j = i
          · subst e; exact hk
          · exact hall.out j (by omega))
        generalize ntp ps i = p at *
        obtain ⟨s, z⟩ := p
        simp only at hc1 hc2 hk
        have gk : ¬ 200 < (s.size : Int) := by omega
        clear hk
        go_wp2
        go_roundw
        case rel => exact ⟨i + 1, by go_num, by omega, HNX, Lib.hid (hb.out.alloc hb.out.size _)⟩
        case measure => simp [intOf]; omega
      · generalize ntp ps i = p at *
        obtain ⟨s, z⟩ := p
        simp only at hc1 hc2 hk
        have gk : 200 < (s.size : Int) := by omega
        clear hk
        go_wp2
        go_ret
        exact ⟨false, rfl, fun h => absurd h (by simp), HX.out.trans ((hb.out.alloc hb.out.size _).mono HX.out.size)⟩
    · obtain rfl : i = n := by omega
      have q1 : wr.cell? ⟨w.heap.size, 1, none⟩ = some (.string key) := (HN.out.below hb.out).cell 1 rfl
      have q3 : wr.cell? ⟨w.heap.size, 3, none⟩ = some (.slice ao i c) := (HN.out.below hb.out).cell 3 rfl
      have HAL : Hid (∀ p ∈ ps, p.1.size ≤ 200) := Lib.hid (fun p hp => by
        obtain ⟨j, hj, rfl⟩ := List.getElem_of_mem hp
        have := hall.out j (by have := HL.out; omega)
        rwa [ntp_eq hj] at this)
      have HPL : Hid (ps.length = i) := Lib.hid HL.out
      by_cases hk : key.size ≤ 200
      · have gk : (key.size : Int) ≤ 200 := by omega
        by_cases h6 : i ≤ 60
        · have g6 : (i : Int) ≤ 60 := by omega
          go_wp2
          go_ret
          exact ⟨true, rfl, fun _ => ⟨hk, by rw [HPL.out]; exact h6, HAL.out⟩, HX.out.trans (hb.out.mono HX.out.size)⟩
        · have g6 : ¬ (i : Int) ≤ 60 := by omega
          go_wp2
          go_ret
          exact ⟨false, rfl, fun h => absurd h (by simp), HX.out.trans (hb.out.mono HX.out.size)⟩
      · have gk : ¬ (key.size : Int) ≤ 200 := by omega
        go_wp2
        go_ret
        exact ⟨false, rfl, fun h => absurd h (by simp), HX.out.trans (hb.out.mono HX.out.size)⟩

end Go.Proofs.YtgckgagnodkhjaaRRRRDoor
