/- bowerref16.uses, Sound; op.Reads, bowerref16.Reads. Condition: texts that fit. -/
import Derived.Test.YtmkglaghnjnooaaDoorOpCheck
import Derived.BigQuiet
namespace Go.Proofs.YtmkglaghnjnooaaDoor
open Go.RowKit

theorem hasB_no {s : ByteArray} {c : UInt8} (h : ∀ k (hk : k < s.size), s[k] ≠ c) : hasB s c = false := by
  unfold hasB
  rw [List.any_eq_false]
  intro x hx
  obtain ⟨i, hi, rfl⟩ := List.mem_iff_getElem.1 hx
  have hi' : i < s.size := by simpa using hi
  simpa using (show s.data[i] ≠ c from h i hi')
theorem hasB_yes {s : ByteArray} {c : UInt8} {k : Nat} (hk : k < s.size) (h : s[k] = c) : hasB s c = true := by
  unfold hasB
  rw [List.any_eq_true]
  exact ⟨s[k], by show s.data[k] ∈ s.data.toList; simp, by simpa using h⟩

theorem usS_size (k : Int) : (usS k).size ≤ 3 := by
  unfold usS
  repeat' split
  all_goals decide
theorem usS_parts (k : Int) : ((usS k).toList == []) = (!usI k) ∧ hasB (usS k) 107 = usK k ∧ hasB (usS k) 116 = usT k ∧ hasB (usS k) 118 = usV k ∧ hasB (usS k) 108 = usT k := by
  rcases kinds k with rfl | rfl | rfl | rfl | rfl | rfl | rfl | rfl | rfl | rfl | h
  case inr.inr.inr.inr.inr.inr.inr.inr.inr.inr =>
    have hp : usS k = ⟨#[]⟩ := by
      unfold usS
      rw [if_neg (by omega), if_neg (by omega), if_neg (by omega), if_neg (by omega)]
    have h1 : usI k = false := by unfold usI; rw [decide_eq_false_iff_not]; omega
    have h2 : usK k = false := by unfold usK; rw [decide_eq_false_iff_not]; omega
    have h3 : usT k = false := by unfold usT; rw [decide_eq_false_iff_not]; omega
    have h4 : usV k = false := by unfold usV; rw [decide_eq_false_iff_not]; omega
    rw [hp, h1, h2, h3, h4]
    refine ⟨?_, ?_, ?_, ?_, ?_⟩ <;> kernel_rfl
  all_goals (refine ⟨?_, ?_, ?_, ?_, ?_⟩ <;> kernel_rfl)

set_option maxHeartbeats 2000000 in
theorem uses_any (k : Int) (c : UInt8) (w : World) : Calls Tryd.prog 30 #[.int .i64 k, .int .u8 (c.toNat : Nat)] w fun e w' => e = .returned (.bool (hasB (usS k) c)) ∧ w = w' := by
  have HU := Lib.hid (fun W => uses_str k W)
  have hsz := usS_size k
  generalize usS k = s at *
  have H1 := Lib.hid (fun h => hasB_no (s := s) (c := c) h)
  have H2 := Lib.hid (fun k hk h => hasB_yes (s := s) (c := c) (k := k) hk h)
  generalize hasB s c = r at *
  go_enter Tryd.func30, Tryd.ntmps30
  go_wp2_with fail
  refine (HU.out _).mono ?_
  rintro e w1 ⟨rfl, hw1⟩
  rw [← hw1]
  clear hw1
  go_wp2
  go_loopw [6] (fun i wr => ∃ j : Nat, i = .int .i64 j ∧ j ≤ s.size ∧ Hid (∀ t (ht : t < s.size), t < j → s[t] ≠ c) ∧ wr = w) (fun i _ => s.size - (intOf i).toNat)
  case atStart => exact ⟨0, rfl, Nat.zero_le _, Lib.hid (fun t ht h => absurd h (Nat.not_lt_zero _)), rfl⟩
  case round =>
    obtain ⟨j, rfl, hjs, hno, hwr⟩ := hrel
    by_cases hlt : j < s.size
    · have hji : (j : Int) < s.size := by omega
      by_cases he : s[j] = c
      · have hne : ((s[j].toNat : Int) == (c.toNat : Int)) = true := by rw [he]; simp
        obtain rfl : r = true := H2.out j hlt he
        clear he
        go_wp2
        go_ret
        exact ⟨rfl, rfl⟩
      · have hne : ((s[j].toNat : Int) == (c.toNat : Int)) = false := by
          have : s[j].toNat ≠ c.toNat := fun h => he (UInt8.toNat_inj.1 h)
          rw [beq_eq_false_iff_ne]; omega
        have HE := Lib.hid he
        clear he
        go_wp2
        go_roundw
        case rel => exact ⟨j + 1, by go_num, by omega, Lib.hid (fun t ht h => by
          by_cases e : t = j
          · subst e; exact HE.out
          · exact hno.out t ht (by omega)), trivial⟩
        case measure => simp [intOf]; omega
    · have hji : ¬ (j : Int) < s.size := by omega
      obtain rfl : r = false := H1.out (fun k hk => hno.out k hk (by omega))
      go_wp2
      go_ret
      exact ⟨rfl, rfl⟩

set_option maxHeartbeats 4000000 in
set_option maxRecDepth 100000 in
theorem rsound_any (k : Int) (key tx : ByteArray) (v : Nat) (lim : Int) (w : World) (h1 : tx.size ≤ 140737488355328) (h2 : key.size ≤ 140737488355328) :
    Calls Tryd.prog 9 #[.agg #[.int .i64 k, .string key, .string tx, .int .u64 (v : Nat), .int .i64 lim]] w fun e w' => e = .returned (.bool (opSoundB k key tx lim)) ∧ Below w.heap.size w w' := by
  have HS := Lib.hid (fun W => uses_str k W)
  have HU := Lib.hid (fun W => uses_any k 107 W)
  have HK := Lib.hid (fun W => rkey_any key W)
  have HT := Lib.hid (fun W => rkey_any tx W)
  have HL := Lib.hid (fun W => less_any tx key W h1 h2)
  obtain ⟨p1, p2, _⟩ := usS_parts k
  have h10 : (k == 10) = usT k := by unfold usT; by_cases h : k = 10 <;> simp [h]
  have hik : usI k = false → usK k = false ∧ usT k = false := fun h => by
    unfold usI at h; unfold usK usT
    rw [decide_eq_false_iff_not] at h
    exact ⟨by rw [decide_eq_false_iff_not]; omega, by rw [decide_eq_false_iff_not]; omega⟩
  unfold opSoundB endB limB
  obtain ⟨li, hli⟩ : ∃ li, li = decide (0 ≤ lim ∧ lim ≤ 4096) := ⟨_, rfl⟩
  rw [← hli]
  have HLI := Lib.hid hli
  clear hli
  rw [p2] at HU
  generalize usS k = s at *
  have n0 := BX.new w 24 #[.int .i64 k, .string key, .string tx, .int .u64 (v : Nat), .int .i64 lim]
  have hx := boxed_below w (.cells #[.int .i64 k, .string key, .string tx, .int .u64 (v : Nat), .int .i64 lim] 24)
  obtain ⟨W1, hW1⟩ : ∃ W, W = w.alloc (.cells #[.int .i64 k, .string key, .string tx, .int .u64 (v : Nat), .int .i64 lim] 24) := ⟨_, rfl⟩
  rw [← hW1] at n0 hx
  have HN := Lib.hid n0
  have HX := Lib.hid hx
  have HW := Lib.hid hW1
  have c0 : W1.cell? ⟨w.heap.size, 0, none⟩ = some (.int .i64 k) := n0.cell 0 rfl
  have c1 : W1.cell? ⟨w.heap.size, 1, none⟩ = some (.string key) := n0.cell 1 rfl
  have c2 : W1.cell? ⟨w.heap.size, 2, none⟩ = some (.string tx) := n0.cell 2 rfl
  have c4 : W1.cell? ⟨w.heap.size, 4, none⟩ = some (.int .i64 lim) := n0.cell 4 rfl
  clear n0 hx hW1 h1 h2 hik p2
  generalize usI k = bi at *
  generalize usK k = bk at *
  generalize usT k = bt at *
  generalize opKeyB key = ky at *
  generalize opKeyB tx = kt at *
  generalize lss tx.data.toList key.data.toList = ls at *
  go_enter Tryd.func9, Tryd.ntmps9
  go_upto_region 1 with fail
  rw [← HW.out]
  clear HW
  cases bi with
  | false =>
    go_wp2_with fail
    refine (HS.out _).mono ?_
    rintro e w4 ⟨rfl, h4⟩
    rw [← h4]
    clear h4
    go_wp2
    go_ret
    exact ⟨rfl, HX.out⟩
  | true =>
    cases bk with
    | false =>
      go_wp2_with fail
      refine (HS.out _).mono ?_
      rintro e w4 ⟨rfl, h4⟩
      rw [← h4]
      clear h4
      go_wp2_with fail
      refine (HU.out _).mono ?_
      rintro e w4 ⟨rfl, h4⟩
      rw [← h4]
      clear h4
      cases bt with
      | false =>
        go_wp2
        go_ret
        exact ⟨rfl, HX.out⟩
      | true =>
        cases kt with
        | false =>
          go_wp2_with fail
          refine (HT.out _).mono ?_
          rintro e w4 ⟨rfl, h4⟩
          rw [← h4]
          clear h4
          go_wp2
          go_ret
          exact ⟨rfl, HX.out⟩
        | true =>
          cases ls with
          | true =>
            go_wp2_with fail
            refine (HT.out _).mono ?_
            rintro e w4 ⟨rfl, h4⟩
            rw [← h4]
            clear h4
            go_wp2_with fail
            refine (HL.out _).mono ?_
            rintro e w5 ⟨rfl, hd⟩
            have hb5 := below_of_drew hd W1.heap.size
            have HB5 := Lib.hid (HX.out.trans (hb5.mono HX.out.size))
            have HN5 := Lib.hid (HN.out.below hb5)
            clear hb5 hd c0 c1 c2 c4
            have c4 : w5.cell? ⟨w.heap.size, 4, none⟩ = some (.int .i64 lim) := HN5.out.cell 4 rfl
            go_wp2
            go_ret
            exact ⟨rfl, HB5.out⟩
          | false =>
            by_cases l0 : 0 ≤ lim
            · by_cases l1 : lim ≤ 4096
              · obtain rfl : li = true := by rw [HLI.out, decide_eq_true (show 0 ≤ lim ∧ lim ≤ 4096 from ⟨l0, l1⟩)]
                have l1d : decide (lim ≤ 4096) = true := decide_eq_true l1
                go_wp2_with fail
                refine (HT.out _).mono ?_
                rintro e w4 ⟨rfl, h4⟩
                rw [← h4]
                clear h4
                go_wp2_with fail
                refine (HL.out _).mono ?_
                rintro e w5 ⟨rfl, hd⟩
                have hb5 := below_of_drew hd W1.heap.size
                have HB5 := Lib.hid (HX.out.trans (hb5.mono HX.out.size))
                have HN5 := Lib.hid (HN.out.below hb5)
                clear hb5 hd c0 c1 c2 c4
                have c4 : w5.cell? ⟨w.heap.size, 4, none⟩ = some (.int .i64 lim) := HN5.out.cell 4 rfl
                go_wp2
                go_ret
                exact ⟨by simp [*], HB5.out⟩
              · obtain rfl : li = false := by rw [HLI.out, decide_eq_false (show ¬ (0 ≤ lim ∧ lim ≤ 4096) from fun h => l1 h.2)]
                have l1d : decide (lim ≤ 4096) = false := decide_eq_false l1
                go_wp2_with fail
                refine (HT.out _).mono ?_
                rintro e w4 ⟨rfl, h4⟩
                rw [← h4]
                clear h4
                go_wp2_with fail
                refine (HL.out _).mono ?_
                rintro e w5 ⟨rfl, hd⟩
                have hb5 := below_of_drew hd W1.heap.size
                have HB5 := Lib.hid (HX.out.trans (hb5.mono HX.out.size))
                have HN5 := Lib.hid (HN.out.below hb5)
                clear hb5 hd c0 c1 c2 c4
                have c4 : w5.cell? ⟨w.heap.size, 4, none⟩ = some (.int .i64 lim) := HN5.out.cell 4 rfl
                go_wp2
                go_ret
                exact ⟨by simp [*], HB5.out⟩
            · obtain rfl : li = false := by rw [HLI.out, decide_eq_false (show ¬ (0 ≤ lim ∧ lim ≤ 4096) from fun h => l0 h.1)]
              go_wp2_with fail
              refine (HT.out _).mono ?_
              rintro e w4 ⟨rfl, h4⟩
              rw [← h4]
              clear h4
              go_wp2_with fail
              refine (HL.out _).mono ?_
              rintro e w5 ⟨rfl, hd⟩
              have hb5 := below_of_drew hd W1.heap.size
              have HB5 := Lib.hid (HX.out.trans (hb5.mono HX.out.size))
              have HN5 := Lib.hid (HN.out.below hb5)
              clear hb5 hd c0 c1 c2 c4
              have c4 : w5.cell? ⟨w.heap.size, 4, none⟩ = some (.int .i64 lim) := HN5.out.cell 4 rfl
              go_wp2
              go_ret
              exact ⟨rfl, HB5.out⟩
    | true =>
      cases ky with
      | false =>
        go_wp2_with fail
        refine (HS.out _).mono ?_
        rintro e w4 ⟨rfl, h4⟩
        rw [← h4]
        clear h4
        go_wp2_with fail
        refine (HU.out _).mono ?_
        rintro e w4 ⟨rfl, h4⟩
        rw [← h4]
        clear h4
        go_wp2_with fail
        refine (HK.out _).mono ?_
        rintro e w4 ⟨rfl, h4⟩
        rw [← h4]
        clear h4
        go_wp2
        go_ret
        exact ⟨rfl, HX.out⟩
      | true =>
        go_wp2_with fail
        refine (HS.out _).mono ?_
        rintro e w4 ⟨rfl, h4⟩
        rw [← h4]
        clear h4
        go_wp2_with fail
        refine (HU.out _).mono ?_
        rintro e w4 ⟨rfl, h4⟩
        rw [← h4]
        clear h4
        go_wp2_with fail
        refine (HK.out _).mono ?_
        rintro e w4 ⟨rfl, h4⟩
        rw [← h4]
        clear h4
        cases bt with
        | false =>
          go_wp2
          go_ret
          exact ⟨rfl, HX.out⟩
        | true =>
          cases kt with
          | false =>
            go_wp2_with fail
            refine (HT.out _).mono ?_
            rintro e w4 ⟨rfl, h4⟩
            rw [← h4]
            clear h4
            go_wp2
            go_ret
            exact ⟨rfl, HX.out⟩
          | true =>
            cases ls with
            | true =>
              go_wp2_with fail
              refine (HT.out _).mono ?_
              rintro e w4 ⟨rfl, h4⟩
              rw [← h4]
              clear h4
              go_wp2_with fail
              refine (HL.out _).mono ?_
              rintro e w5 ⟨rfl, hd⟩
              have hb5 := below_of_drew hd W1.heap.size
              have HB5 := Lib.hid (HX.out.trans (hb5.mono HX.out.size))
              have HN5 := Lib.hid (HN.out.below hb5)
              clear hb5 hd c0 c1 c2 c4
              have c4 : w5.cell? ⟨w.heap.size, 4, none⟩ = some (.int .i64 lim) := HN5.out.cell 4 rfl
              go_wp2
              go_ret
              exact ⟨rfl, HB5.out⟩
            | false =>
              by_cases l0 : 0 ≤ lim
              · by_cases l1 : lim ≤ 4096
                · obtain rfl : li = true := by rw [HLI.out, decide_eq_true (show 0 ≤ lim ∧ lim ≤ 4096 from ⟨l0, l1⟩)]
                  have l1d : decide (lim ≤ 4096) = true := decide_eq_true l1
                  go_wp2_with fail
                  refine (HT.out _).mono ?_
                  rintro e w4 ⟨rfl, h4⟩
                  rw [← h4]
                  clear h4
                  go_wp2_with fail
                  refine (HL.out _).mono ?_
                  rintro e w5 ⟨rfl, hd⟩
                  have hb5 := below_of_drew hd W1.heap.size
                  have HB5 := Lib.hid (HX.out.trans (hb5.mono HX.out.size))
                  have HN5 := Lib.hid (HN.out.below hb5)
                  clear hb5 hd c0 c1 c2 c4
                  have c4 : w5.cell? ⟨w.heap.size, 4, none⟩ = some (.int .i64 lim) := HN5.out.cell 4 rfl
                  go_wp2
                  go_ret
                  exact ⟨by simp [*], HB5.out⟩
                · obtain rfl : li = false := by rw [HLI.out, decide_eq_false (show ¬ (0 ≤ lim ∧ lim ≤ 4096) from fun h => l1 h.2)]
                  have l1d : decide (lim ≤ 4096) = false := decide_eq_false l1
                  go_wp2_with fail
                  refine (HT.out _).mono ?_
                  rintro e w4 ⟨rfl, h4⟩
                  rw [← h4]
                  clear h4
                  go_wp2_with fail
                  refine (HL.out _).mono ?_
                  rintro e w5 ⟨rfl, hd⟩
                  have hb5 := below_of_drew hd W1.heap.size
                  have HB5 := Lib.hid (HX.out.trans (hb5.mono HX.out.size))
                  have HN5 := Lib.hid (HN.out.below hb5)
                  clear hb5 hd c0 c1 c2 c4
                  have c4 : w5.cell? ⟨w.heap.size, 4, none⟩ = some (.int .i64 lim) := HN5.out.cell 4 rfl
                  go_wp2
                  go_ret
                  exact ⟨by simp [*], HB5.out⟩
              · obtain rfl : li = false := by rw [HLI.out, decide_eq_false (show ¬ (0 ≤ lim ∧ lim ≤ 4096) from fun h => l0 h.1)]
                go_wp2_with fail
                refine (HT.out _).mono ?_
                rintro e w4 ⟨rfl, h4⟩
                rw [← h4]
                clear h4
                go_wp2_with fail
                refine (HL.out _).mono ?_
                rintro e w5 ⟨rfl, hd⟩
                have hb5 := below_of_drew hd W1.heap.size
                have HB5 := Lib.hid (HX.out.trans (hb5.mono HX.out.size))
                have HN5 := Lib.hid (HN.out.below hb5)
                clear hb5 hd c0 c1 c2 c4
                have c4 : w5.cell? ⟨w.heap.size, 4, none⟩ = some (.int .i64 lim) := HN5.out.cell 4 rfl
                go_wp2
                go_ret
                exact ⟨rfl, HB5.out⟩

/-- Does an operation read alone? -/
def opReadsB (k : Int) (key tx : ByteArray) (lim : Int) : Bool := opSoundB k key tx lim && decide (k = 1 ∨ 6 ≤ k)
theorem opSound_kind {k : Int} {key tx : ByteArray} {lim : Int} (h : opSoundB k key tx lim = true) : 1 ≤ k ∧ k ≤ 10 := by
  unfold opSoundB at h
  rw [Bool.and_eq_true, Bool.and_eq_true, Bool.and_eq_true] at h
  have := h.1.1.1
  unfold usI at this
  rw [decide_eq_true_iff] at this
  exact this

set_option maxHeartbeats 4000000 in
set_option maxRecDepth 100000 in
theorem rreads_any (k : Int) (key tx : ByteArray) (v : Nat) (lim : Int) (w : World) (h1 : tx.size ≤ 140737488355328) (h2 : key.size ≤ 140737488355328) :
    Calls Tryd.prog 13 #[.agg #[.int .i64 k, .string key, .string tx, .int .u64 (v : Nat), .int .i64 lim]] w fun e w' => e = .returned (.bool (opReadsB k key tx lim)) ∧ Below w.heap.size w w' := by
  have HS := Lib.hid (fun W => rsound_any k key tx v lim W h1 h2)
  unfold opReadsB
  obtain ⟨rd, hrd⟩ : ∃ rd, rd = decide (k = 1 ∨ 6 ≤ k) := ⟨_, rfl⟩
  rw [← hrd]
  have HRD := Lib.hid hrd
  clear hrd
  generalize opSoundB k key tx lim = sd at *
  have n0 := BX.new w 24 #[.int .i64 k, .string key, .string tx, .int .u64 (v : Nat), .int .i64 lim]
  have hx := boxed_below w (.cells #[.int .i64 k, .string key, .string tx, .int .u64 (v : Nat), .int .i64 lim] 24)
  obtain ⟨W1, hW1⟩ : ∃ W, W = w.alloc (.cells #[.int .i64 k, .string key, .string tx, .int .u64 (v : Nat), .int .i64 lim] 24) := ⟨_, rfl⟩
  rw [← hW1] at n0 hx
  have HN := Lib.hid n0
  have HX := Lib.hid hx
  have HW := Lib.hid hW1
  have c0 : W1.cell? ⟨w.heap.size, 0, none⟩ = some (.int .i64 k) := n0.cell 0 rfl
  have c1 : W1.cell? ⟨w.heap.size, 1, none⟩ = some (.string key) := n0.cell 1 rfl
  have c2 : W1.cell? ⟨w.heap.size, 2, none⟩ = some (.string tx) := n0.cell 2 rfl
  have c3 : W1.cell? ⟨w.heap.size, 3, none⟩ = some (.int .u64 (v : Nat)) := n0.cell 3 rfl
  have c4 : W1.cell? ⟨w.heap.size, 4, none⟩ = some (.int .i64 lim) := n0.cell 4 rfl
  clear n0 hx hW1 h1 h2
  go_enter Tryd.func13, Tryd.ntmps13
  go_upto_region 1 with fail
  rw [← HW.out]
  clear HW
  go_wp2_with fail
  refine (HS.out _).mono ?_
  rintro e w2 ⟨rfl, hb2⟩
  have HB := Lib.hid (HX.out.trans (hb2.mono HX.out.size))
  have HN2 := Lib.hid (HN.out.below hb2)
  clear hb2 c0 c1 c2 c3 c4
  have c0 : w2.cell? ⟨w.heap.size, 0, none⟩ = some (.int .i64 k) := HN2.out.cell 0 rfl
  cases sd with
  | false =>
    go_wp2
    go_ret
    exact ⟨rfl, HB.out⟩
  | true =>
    by_cases e1 : k = 1
    · obtain rfl : rd = true := by rw [HRD.out, decide_eq_true (show k = 1 ∨ 6 ≤ k from Or.inl e1)]
      subst e1
      go_wp2
      go_ret
      exact ⟨rfl, HB.out⟩
    · have e1' : (k == 1) = false := by rw [beq_eq_false_iff_ne]; exact e1
      by_cases e6 : 6 ≤ k
      · obtain rfl : rd = true := by rw [HRD.out, decide_eq_true (show k = 1 ∨ 6 ≤ k from Or.inr e6)]
        clear e1
        go_wp2
        go_ret
        exact ⟨by simp [*], HB.out⟩
      · obtain rfl : rd = false := by rw [HRD.out, decide_eq_false (show ¬ (k = 1 ∨ 6 ≤ k) from fun h => h.elim e1 e6)]
        clear e1
        go_wp2
        go_ret
        exact ⟨by simp [*], HB.out⟩

set_option maxHeartbeats 4000000 in
set_option maxRecDepth 100000 in
theorem opReads_any (k : Int) (key tx : ByteArray) (v : Nat) (lim : Int) (w : World) (h1 : tx.size ≤ 140737488355328) (h2 : key.size ≤ 140737488355328) :
    Calls Tryd.prog 12 #[.agg #[.int .i64 k, .string key, .string tx, .int .u64 (v : Nat), .int .i64 lim]] w fun e w' => e = .returned (.bool (opReadsB k key tx lim)) ∧ Below w.heap.size w w' := by
  have HS := Lib.hid (fun W => opCheck_any k key tx v lim W h1 h2)
  have HI := Lib.hid (opSound_kind (k := k) (key := key) (tx := tx) (lim := lim))
  unfold opReadsB
  generalize opSoundB k key tx lim = sd at *
  have n0 := BX.new w 24 #[.int .i64 k, .string key, .string tx, .int .u64 (v : Nat), .int .i64 lim]
  have hx := boxed_below w (.cells #[.int .i64 k, .string key, .string tx, .int .u64 (v : Nat), .int .i64 lim] 24)
  obtain ⟨W1, hW1⟩ : ∃ W, W = w.alloc (.cells #[.int .i64 k, .string key, .string tx, .int .u64 (v : Nat), .int .i64 lim] 24) := ⟨_, rfl⟩
  rw [← hW1] at n0 hx
  have HN := Lib.hid n0
  have HX := Lib.hid hx
  have HW := Lib.hid hW1
  have c0 : W1.cell? ⟨w.heap.size, 0, none⟩ = some (.int .i64 k) := n0.cell 0 rfl
  have c1 : W1.cell? ⟨w.heap.size, 1, none⟩ = some (.string key) := n0.cell 1 rfl
  have c2 : W1.cell? ⟨w.heap.size, 2, none⟩ = some (.string tx) := n0.cell 2 rfl
  have c3 : W1.cell? ⟨w.heap.size, 3, none⟩ = some (.int .u64 (v : Nat)) := n0.cell 3 rfl
  have c4 : W1.cell? ⟨w.heap.size, 4, none⟩ = some (.int .i64 lim) := n0.cell 4 rfl
  clear n0 hx hW1 h1 h2
  by_cases hin : k = 1 ∨ k = 6 ∨ k = 7 ∨ k = 8 ∨ k = 9 ∨ k = 10
  · have hd : decide (k = 1 ∨ 6 ≤ k) = true := by rw [decide_eq_true_iff]; omega
    rw [hd, Bool.and_true]
    clear hd
    rcases hin with rfl | rfl | rfl | rfl | rfl | rfl
    all_goals
      cases sd with
      | false =>
        go_enter Tryd.func12, Tryd.ntmps12
        go_upto_region 1 with fail
        rw [← HW.out]
        clear HW
        go_wp2_with fail
        refine (HS.out _).mono ?_
        rintro e w2 ⟨rfl, hb2⟩
        have HB := Lib.hid (HX.out.trans (hb2.mono HX.out.size))
        clear hb2 c0 c1 c2 c3 c4
        go_wp2
        go_ret
        exact ⟨rfl, HB.out⟩
      | true =>
        go_enter Tryd.func12, Tryd.ntmps12
        go_upto_region 1 with fail
        rw [← HW.out]
        clear HW
        go_wp2_with fail
        refine (HS.out _).mono ?_
        rintro e w2 ⟨rfl, hb2⟩
        have HB := Lib.hid (HX.out.trans (hb2.mono HX.out.size))
        clear hb2 c0 c1 c2 c3 c4
        go_wp2
        go_ret
        exact ⟨rfl, HB.out⟩
  · have hr : (sd && decide (k = 1 ∨ 6 ≤ k)) = false := by
      cases sd with
      | false => rfl
      | true => have := HI.out rfl; rw [Bool.true_and, decide_eq_false_iff_not]; omega
    rw [hr]
    clear hr
    have e1 : (k == 1) = false := by rw [beq_eq_false_iff_ne]; omega
    have e6 : (k == 6) = false := by rw [beq_eq_false_iff_ne]; omega
    have e7 : (k == 7) = false := by rw [beq_eq_false_iff_ne]; omega
    have e8 : (k == 8) = false := by rw [beq_eq_false_iff_ne]; omega
    have e9 : (k == 9) = false := by rw [beq_eq_false_iff_ne]; omega
    have e10 : (k == 10) = false := by rw [beq_eq_false_iff_ne]; omega
    clear hin
    go_enter Tryd.func12, Tryd.ntmps12
    go_upto_region 1 with fail
    rw [← HW.out]
    clear HW
    go_wp2
    go_ret
    exact ⟨rfl, HX.out⟩
end Go.Proofs.YtmkglaghnjnooaaDoor
