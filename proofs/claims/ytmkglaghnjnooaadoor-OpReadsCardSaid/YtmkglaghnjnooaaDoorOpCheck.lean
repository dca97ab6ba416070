/- op.Check; bowerref16.Uses, uses, Sound. Condition: texts that fit. -/
import Derived.Test.YtmkglaghnjnooaaDoorOpBase
namespace Go.Proofs.YtmkglaghnjnooaaDoor
open Go.RowKit

/-- Is an operation sound? -/
def opSoundB (k : Int) (key tx : ByteArray) (lim : Int) : Bool := usI k && (!usK k || opKeyB key) && (!usT k || endB tx key) && (!usT k || limB lim)

theorem below_of_drew {w w' : World} (h : Drew w w') (B : Nat) : Below B w w' := by
  obtain ⟨q, rfl⟩ := h
  exact below_drewN (Below.refl _ _) q

set_option maxHeartbeats 4000000 in
set_option maxRecDepth 100000 in
theorem opCheck_any (k : Int) (key tx : ByteArray) (v : Nat) (lim : Int) (w : World) (h1 : tx.size ≤ 140737488355328) (h2 : key.size ≤ 140737488355328) :
    Calls Tryd.prog 8 #[.agg #[.int .i64 k, .string key, .string tx, .int .u64 (v : Nat), .int .i64 lim]] w fun e w' => e = .returned (.int .i64 (if opSoundB k key tx lim = true then 0 else 2)) ∧ Below w.heap.size w w' := by
  have HK := Lib.hid (fun W => isKey_any key W)
  have HE := Lib.hid (fun W => isEnd_any tx key W h1 h2)
  have HL := Lib.hid (fun W => isLimit_any lim W)
  have HU := Lib.hid (fun W => used_any k W)
  unfold partsV at HU
  unfold opSoundB
  have n0 := BX.new w 24 #[.int .i64 k, .string key, .string tx, .int .u64 (v : Nat), .int .i64 lim]
  have hx := boxed_below w (.cells #[.int .i64 k, .string key, .string tx, .int .u64 (v : Nat), .int .i64 lim] 24)
  obtain ⟨W1, hW1⟩ : ∃ W, W = w.alloc (.cells #[.int .i64 k, .string key, .string tx, .int .u64 (v : Nat), .int .i64 lim] 24) := ⟨_, rfl⟩
  rw [← hW1] at n0 hx
  have HN := Lib.hid n0
  have HX := Lib.hid hx
  have HW := Lib.hid hW1
  have c0 : W1.cell? ⟨w.heap.size, 0, none⟩ = some (.int .i64 k) := n0.cell 0 rfl
  clear n0 hx hW1 h1 h2
  generalize usI k = bi at *
  generalize usK k = bk at *
  generalize usV k = bv at *
  generalize usT k = bt at *
  generalize opKeyB key = ky at *
  generalize endB tx key = en at *
  generalize limB lim = li at *
  go_enter Tryd.func8, Tryd.ntmps8
  go_upto_region 1 with fail
  rw [← HW.out]
  clear HW
  go_wp2_with fail
  refine (HU.out _).mono ?_
  rintro e w2 ⟨rfl, hb2⟩
  have m0 := BX.new w2 53 #[.bool bi, .bool bk, .bool bv, .bool bt, .bool bt]
  have hx2 := boxed_below w2 (.cells #[.bool bi, .bool bk, .bool bv, .bool bt, .bool bt] 53)
  obtain ⟨W3, hW3⟩ : ∃ W, W = w2.alloc (.cells #[.bool bi, .bool bk, .bool bv, .bool bt, .bool bt] 53) := ⟨_, rfl⟩
  rw [← hW3] at m0 hx2
  have HB3 : Hid (Below w.heap.size w W3) := Lib.hid ((HX.out.trans (hb2.mono HX.out.size)).trans (hx2.mono (Nat.le_trans HX.out.size hb2.size)))
  have HN3 := Lib.hid ((HN.out.below hb2).below hx2)
  have HM3 := Lib.hid m0
  have HW3 := Lib.hid hW3
  clear m0 hx2 hb2 hW3 c0
  go_upto_region 2 with fail
  rw [← HW3.out]
  clear HW3
  obtain ⟨g, hg⟩ : ∃ g, g = w2.heap.size := ⟨_, rfl⟩
  rw [← hg] at HM3 ⊢
  clear hg
  have c0 : W3.cell? ⟨w.heap.size, 0, none⟩ = some (.int .i64 k) := HN3.out.cell 0 rfl
  have c1 : W3.cell? ⟨w.heap.size, 1, none⟩ = some (.string key) := HN3.out.cell 1 rfl
  have c2 : W3.cell? ⟨w.heap.size, 2, none⟩ = some (.string tx) := HN3.out.cell 2 rfl
  have c4 : W3.cell? ⟨w.heap.size, 4, none⟩ = some (.int .i64 lim) := HN3.out.cell 4 rfl
  have d0 : W3.cell? ⟨g, 0, none⟩ = some (.bool bi) := HM3.out.cell 0 rfl
  have d1 : W3.cell? ⟨g, 1, none⟩ = some (.bool bk) := HM3.out.cell 1 rfl
  have d3 : W3.cell? ⟨g, 3, none⟩ = some (.bool bt) := HM3.out.cell 3 rfl
  have d4 : W3.cell? ⟨g, 4, none⟩ = some (.bool bt) := HM3.out.cell 4 rfl
  cases bi with
  | false =>
    go_wp2
    go_ret
    exact ⟨rfl, HB3.out⟩
  | true =>
    cases bk with
    | false =>
      cases bt with
      | false =>
        go_wp2
        go_ret
        exact ⟨rfl, HB3.out⟩
      | true =>
        cases en with
        | false =>
          go_wp2_with fail
          refine (HE.out _).mono ?_
          rintro e w5 ⟨rfl, hd⟩
          have hb5 := below_of_drew hd W3.heap.size
          have HB5 := Lib.hid (HB3.out.trans (hb5.mono HB3.out.size))
          have HN5 := Lib.hid (HN3.out.below hb5)
          have HM5 := Lib.hid (HM3.out.below hb5)
          clear c0 c1 c2 c4 d0 d1 d3 d4
          clear hb5 hd
          go_wp2
          go_ret
          exact ⟨rfl, HB5.out⟩
        | true =>
          go_wp2_with fail
          refine (HE.out _).mono ?_
          rintro e w5 ⟨rfl, hd⟩
          have hb5 := below_of_drew hd W3.heap.size
          have HB5 := Lib.hid (HB3.out.trans (hb5.mono HB3.out.size))
          have HN5 := Lib.hid (HN3.out.below hb5)
          have HM5 := Lib.hid (HM3.out.below hb5)
          clear c0 c1 c2 c4 d0 d1 d3 d4
          clear hb5 hd
          have c0 : w5.cell? ⟨w.heap.size, 0, none⟩ = some (.int .i64 k) := HN5.out.cell 0 rfl
          have c1 : w5.cell? ⟨w.heap.size, 1, none⟩ = some (.string key) := HN5.out.cell 1 rfl
          have c2 : w5.cell? ⟨w.heap.size, 2, none⟩ = some (.string tx) := HN5.out.cell 2 rfl
          have c4 : w5.cell? ⟨w.heap.size, 4, none⟩ = some (.int .i64 lim) := HN5.out.cell 4 rfl
          have d0 : w5.cell? ⟨g, 0, none⟩ = some (.bool true) := HM5.out.cell 0 rfl
          have d1 : w5.cell? ⟨g, 1, none⟩ = some (.bool false) := HM5.out.cell 1 rfl
          have d3 : w5.cell? ⟨g, 3, none⟩ = some (.bool true) := HM5.out.cell 3 rfl
          have d4 : w5.cell? ⟨g, 4, none⟩ = some (.bool true) := HM5.out.cell 4 rfl
          cases li with
          | false =>
            go_wp2_with fail
            refine (HL.out _).mono ?_
            rintro e w6 ⟨rfl, rfl⟩
            go_wp2
            go_ret
            exact ⟨rfl, HB5.out⟩
          | true =>
            go_wp2_with fail
            refine (HL.out _).mono ?_
            rintro e w6 ⟨rfl, rfl⟩
            go_wp2
            go_ret
            exact ⟨rfl, HB5.out⟩
    | true =>
      cases ky with
      | false =>
        go_wp2_with fail
        refine (HK.out _).mono ?_
        rintro e w4 ⟨rfl, h4⟩
        rw [h4]
        go_wp2
        go_ret
        exact ⟨rfl, HB3.out⟩
      | true =>
        go_wp2_with fail
        refine (HK.out _).mono ?_
        rintro e w4 ⟨rfl, h4⟩
        rw [h4]
        cases bt with
        | false =>
          go_wp2
          go_ret
          exact ⟨rfl, HB3.out⟩
        | true =>
          cases en with
          | false =>
            go_wp2_with fail
            refine (HE.out _).mono ?_
            rintro e w5 ⟨rfl, hd⟩
            have hb5 := below_of_drew hd W3.heap.size
            have HB5 := Lib.hid (HB3.out.trans (hb5.mono HB3.out.size))
            have HN5 := Lib.hid (HN3.out.below hb5)
            have HM5 := Lib.hid (HM3.out.below hb5)
            clear c0 c1 c2 c4 d0 d1 d3 d4
            clear hb5 hd
            go_wp2
            go_ret
            exact ⟨rfl, HB5.out⟩
          | true =>
            go_wp2_with fail
            refine (HE.out _).mono ?_
            rintro e w5 ⟨rfl, hd⟩
            have hb5 := below_of_drew hd W3.heap.size
            have HB5 := Lib.hid (HB3.out.trans (hb5.mono HB3.out.size))
            have HN5 := Lib.hid (HN3.out.below hb5)
            have HM5 := Lib.hid (HM3.out.below hb5)
            clear c0 c1 c2 c4 d0 d1 d3 d4
            clear hb5 hd
            have c0 : w5.cell? ⟨w.heap.size, 0, none⟩ = some (.int .i64 k) := HN5.out.cell 0 rfl
            have c1 : w5.cell? ⟨w.heap.size, 1, none⟩ = some (.string key) := HN5.out.cell 1 rfl
            have c2 : w5.cell? ⟨w.heap.size, 2, none⟩ = some (.string tx) := HN5.out.cell 2 rfl
            have c4 : w5.cell? ⟨w.heap.size, 4, none⟩ = some (.int .i64 lim) := HN5.out.cell 4 rfl
            have d0 : w5.cell? ⟨g, 0, none⟩ = some (.bool true) := HM5.out.cell 0 rfl
            have d1 : w5.cell? ⟨g, 1, none⟩ = some (.bool true) := HM5.out.cell 1 rfl
            have d3 : w5.cell? ⟨g, 3, none⟩ = some (.bool true) := HM5.out.cell 3 rfl
            have d4 : w5.cell? ⟨g, 4, none⟩ = some (.bool true) := HM5.out.cell 4 rfl
            cases li with
            | false =>
              go_wp2_with fail
              refine (HL.out _).mono ?_
              rintro e w6 ⟨rfl, rfl⟩
              go_wp2
              go_ret
              exact ⟨rfl, HB5.out⟩
            | true =>
              go_wp2_with fail
              refine (HL.out _).mono ?_
              rintro e w6 ⟨rfl, rfl⟩
              go_wp2
              go_ret
              exact ⟨rfl, HB5.out⟩

set_option maxHeartbeats 4000000 in
theorem uses_str (k : Int) (w : World) : Calls Tryd.prog 29 #[.int .i64 k] w fun e w' => e = .returned (.string (usS k)) ∧ w = w' := by
  rcases kinds k with rfl | rfl | rfl | rfl | rfl | rfl | rfl | rfl | rfl | rfl | h
  · go_enter Tryd.func29, Tryd.ntmps29
    go_wp2
    go_ret
    exact ⟨rfl, rfl⟩
  · go_enter Tryd.func29, Tryd.ntmps29
    go_wp2
    go_ret
    exact ⟨rfl, rfl⟩
  · go_enter Tryd.func29, Tryd.ntmps29
    go_wp2
    go_ret
    exact ⟨rfl, rfl⟩
  · go_enter Tryd.func29, Tryd.ntmps29
    go_wp2
    go_ret
    exact ⟨rfl, rfl⟩
  · go_enter Tryd.func29, Tryd.ntmps29
    go_wp2
    go_ret
    exact ⟨rfl, rfl⟩
  · go_enter Tryd.func29, Tryd.ntmps29
    go_wp2
    go_ret
    exact ⟨rfl, rfl⟩
  · go_enter Tryd.func29, Tryd.ntmps29
    go_wp2
    go_ret
    exact ⟨rfl, rfl⟩
  · go_enter Tryd.func29, Tryd.ntmps29
    go_wp2
    go_ret
    exact ⟨rfl, rfl⟩
  · go_enter Tryd.func29, Tryd.ntmps29
    go_wp2
    go_ret
    exact ⟨rfl, rfl⟩
  · go_enter Tryd.func29, Tryd.ntmps29
    go_wp2
    go_ret
    exact ⟨rfl, rfl⟩
  · have e1 : (k == 1) = false := by rw [beq_eq_false_iff_ne]; omega
    have e2 : (k == 2) = false := by rw [beq_eq_false_iff_ne]; omega
    have e3 : (k == 3) = false := by rw [beq_eq_false_iff_ne]; omega
    have e4 : (k == 4) = false := by rw [beq_eq_false_iff_ne]; omega
    have e5 : (k == 5) = false := by rw [beq_eq_false_iff_ne]; omega
    have e6 : (k == 6) = false := by rw [beq_eq_false_iff_ne]; omega
    have e7 : (k == 7) = false := by rw [beq_eq_false_iff_ne]; omega
    have e8 : (k == 8) = false := by rw [beq_eq_false_iff_ne]; omega
    have e9 : (k == 9) = false := by rw [beq_eq_false_iff_ne]; omega
    have e10 : (k == 10) = false := by rw [beq_eq_false_iff_ne]; omega
    have hp : usS k = ⟨#[]⟩ := by
      unfold usS
      rw [if_neg (by omega), if_neg (by omega), if_neg (by omega), if_neg (by omega)]
    rw [hp]
    clear h hp
    go_enter Tryd.func29, Tryd.ntmps29
    go_wp2
    go_ret
    exact ⟨rfl, rfl⟩

/-- Is a letter among a text's bytes? -/
def hasB (s : ByteArray) (c : UInt8) : Bool := s.data.toList.any (· == c)
end Go.Proofs.YtmkglaghnjnooaaDoor
