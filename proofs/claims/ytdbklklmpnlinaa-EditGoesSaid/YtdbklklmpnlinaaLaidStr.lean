/- sorted.laid at string: rows one behind the other, in a new row; nothing that was there has turned. Condition: at most 2^40 elements all together. -/
import Derived.Test.YtdbklklmpnlinaaRowFacts
namespace Go.Proofs.Ytdbklklmpnlinaa
open Go.RowKit

/-- The elements of the first rows. -/
def flatStr (rows : List (Value × List Value)) (k : Nat) : List Value := (rows.take k).flatMap (·.2)

theorem flatStr_succ (rows : List (Value × List Value)) (k : Nat) (h : k < rows.length) : flatStr rows (k + 1) = flatStr rows k ++ rows[k].2 := by
  unfold flatStr
  rw [List.take_succ_eq_append_getElem h, List.flatMap_append]
  simp

theorem flatStr_len (rows : List (Value × List Value)) (k : Nat) : (flatStr rows k).length ≤ (rows.flatMap (·.2)).length := by
  unfold flatStr
  conv => rhs; rw [← List.take_append_drop k rows, List.flatMap_append, List.length_append]
  omega

theorem flatStr_all (rows : List (Value × List Value)) (k : Nat) (h : rows.length ≤ k) : flatStr rows k = rows.flatMap (·.2) := by
  unfold flatStr
  rw [List.take_of_length_le h]

def LaidStr (w w' : World) (e : Ending) (xs : List Value) : Prop := ∃ v, e = .returned v ∧ Made w w' 9 v xs

theorem infoStr : (Try.prog.info? 9).map (fun i => (i.zero, i.size, i.bytes)) = some (some (.string ⟨#[]⟩), 1, 16) := by kernel_rfl
theorem sizeStr : (Try.prog.info? 9).map (·.size) = some 1 := by kernel_rfl

theorem cells_oneStr (n : Nat) : (madeCells (Value.cells (.string ⟨#[]⟩)) (n * 1)).toList.length = n := by
  simp [madeCells]

set_option maxHeartbeats 2000000 in
set_option maxRecDepth 100000 in
theorem laidStr_any (g n : Nat) (rows : List (Value × List Value)) (hn : n = rows.length) (w : World) (hr : ∀ i (h : i < rows.length), w.cell? ⟨g, i, none⟩ = some rows[i].1 ∧ Rd w rows[i].1 rows[i].2)
    (h1 : ∀ i (h : i < rows.length), ∀ v ∈ rows[i].2, v.oneCell' = true) (hs : n ≤ 1000) (ht : (rows.flatMap (·.2)).length ≤ 1099511627776) :
    Calls Try.prog 138 #[.slice (some ⟨g, 0, none⟩) n n] w fun e w' => LaidStr w w' e (rows.flatMap (·.2)) := by
  have HN := Lib.hid hn
  have HR := Lib.hid hr
  have H1 := Lib.hid h1
  have HT := Lib.hid ht
  obtain ⟨i0, hi, hz0, hz1, hz2⟩ := info_parts infoStr
  have HI := Lib.hid (show _ ∧ _ ∧ _ ∧ _ from ⟨hi, hz0, hz1, hz2⟩)
  clear hn hr h1 ht hi hz0 hz1 hz2
  go_enter Try.func138, Try.ntmps138
  go_wp2
  go_loop [3, 12] (fun s i => ∃ k : Nat, i = .int .i64 k ∧ k ≤ n ∧ s = .int .i64 (flatStr rows k).length) (fun _ i => n - (intOf i).toNat)
  case atStart => exact ⟨0, rfl, Nat.zero_le _, by simp [flatStr]⟩
  case round =>
    obtain ⟨k, rfl, hk, rfl⟩ := hrel
    by_cases hlt : k < n
    · have hkr : k < rows.length := by have := HN.out; omega
      have hc := HR.out k hkr
      obtain ⟨ao, c, hv⟩ := hc.2.open
      have hc1 := hc.1
      rw [hv] at hc1
      have hb1 := flatStr_len rows (k + 1)
      have hb2 := flatStr_succ rows k hkr
      have hb3 : (flatStr rows (k + 1)).length = (flatStr rows k).length + rows[k].2.length := by rw [hb2, List.length_append]
      have hb4 : (flatStr rows (k + 1)).length ≤ 1099511627776 := Nat.le_trans hb1 HT.out
      rw [hb3] at hb4
      have HB := Lib.hid hb3
      clear hb3 hb2 hb1 hc hv
      generalize (flatStr rows k).length = L0 at *
      generalize rows[k].2.length = M at *
      have hb5 : L0 ≤ 1099511627776 := by omega
      have hb6 : M ≤ 1099511627776 := by omega
      clear hb4
      go_wp2
      go_round
      case rel => exact ⟨k + 1, by go_num, by omega, by rw [HB.out]; go_num⟩
      case measure => simp [intOf]; omega
    · obtain rfl : k = n := by omega
      have hall := flatStr_all rows k (by have := HN.out; omega)
      have hlen : (flatStr rows k).length = (rows.flatMap (·.2)).length := by rw [hall]
      have HL := Lib.hid hlen
      clear hall hlen
      have hNb := HT.out
      obtain ⟨N, hN⟩ : ∃ N, N = (flatStr rows k).length := ⟨_, rfl⟩
      have HNE := Lib.hid (show N = (rows.flatMap (·.2)).length by rw [hN, HL.out])
      rw [← hN]
      have hNb2 : N ≤ 1099511627776 := by have := HNE.out; omega
      clear hN hNb
      go_wp2_with (refine wpList_make_full _ rfl (.tmp 21) (.tmp 21) 37 rfl w.heap.size 9 i0 (.string ⟨#[]⟩) 1 Try.underlying37 HI.out.1 HI.out.2.1 HI.out.2.2.1 .i64 .i64 _ _ N rfl rfl rfl rfl (by rw [HI.out.2.2.2]; omega) (by unfold maxLen; omega) (Nat.le_refl _) ?_; intro w1 hown hgrow)
      have hw1 := whole_of_owns hown
      have hzl := hw1.2
      have hZ := Lib.hid hw1.1
      have hb1 : Below w.heap.size w w1 := (Below.refl _ _).grown hgrow (Nat.le_refl _) (fun _ h => by cases h)
      clear hown hgrow hw1
      generalize (madeCells (Value.cells (.string ⟨#[]⟩)) (N * 1)).toList = zs at *
      have HZL := Lib.hid hzl
      clear hzl
      go_loopw [7, 25] (fun s i wr => ∃ j : Nat, i = .int .i64 j ∧ j ≤ k ∧ s = .int .i64 (flatStr rows j).length ∧ Hid (Whole wr 9 w.heap.size (flatStr rows j ++ zs.drop (flatStr rows j).length)) ∧ Below w.heap.size w wr) (fun _ i _ => k - (intOf i).toNat)
      case atStart => exact ⟨0, rfl, Nat.zero_le _, by simp [flatStr], by simpa [flatStr] using hZ, hb1⟩
      case round =>
        obtain ⟨j, rfl, hj, rfl, hW, hb⟩ := hrel
        by_cases hlt : j < k
        · have hjr : j < rows.length := by have := HN.out; omega
          have hc := HR.out j hjr
          have hone := Lib.hid (H1.out j hjr)
          have hrd := hc.2.keep hb
          obtain ⟨ao, c, hv⟩ := hc.2.open
          have hc1 := hc.1
          have hgl : g < w.heap.size := World.block_lt_of_cell? w _ hc1
          rw [hv] at hc1 hrd
          have hcell := (hb.cell (p := ⟨g, j, none⟩) hgl).trans hc1
          have hb2 := flatStr_succ rows j hjr
          have hb3 : (flatStr rows (j + 1)).length = (flatStr rows j).length + rows[j].2.length := by rw [hb2, List.length_append]
          have hb4 : (flatStr rows (j + 1)).length ≤ N := by rw [HNE.out]; exact flatStr_len rows (j + 1)
          rw [hb3] at hb4
          have HRD := Lib.hid hrd
          have HB2 := Lib.hid hb2
          have HB3 := Lib.hid hb3
          have HW := Lib.hid hW.out
          clear hb2 hb3 hc hrd hc1 hW hv
          generalize rows[j].2 = cs at *
          generalize flatStr rows j = X at *
          have hcur : (X ++ zs.drop X.length).length = N := by rw [List.length_append, List.length_drop]; have := HZL.out; omega
          have HC := Lib.hid hcur
          clear hcur
          obtain ⟨cur, hcr⟩ : ∃ cur, cur = X ++ zs.drop X.length := ⟨_, rfl⟩
          have HCR := Lib.hid hcr
          rw [← hcr] at HW HC
          clear hcr
          obtain ⟨M, hM⟩ : ∃ M, M = cs.length := ⟨_, rfl⟩
          obtain ⟨L, hL⟩ : ∃ L, L = X.length := ⟨_, rfl⟩
          rw [← hM, ← hL] at hb4
          rw [← hM] at hcell HRD HB3
          rw [← hL] at HCR HB3
          have HM := Lib.hid hM
          have hcsl : cs.length ≤ 1099511627776 := by omega
          have HLX := Lib.hid hL
          rw [← hL]
          have HNX : Hid (∀ w2 : World, w2.heap[w.heap.size]? = some (.cells (splice cur L cs).toArray 9 (0, 0)) → Whole w2 9 w.heap.size (flatStr rows (j + 1) ++ zs.drop (flatStr rows (j + 1)).length)) := Lib.hid (fun w2 h => by
            unfold Whole
            rw [h, HCR.out, HLX.out, splice_next, HB2.out, List.length_append, List.drop_drop])
          clear hM hL
          have hL0 : L ≤ N := by omega
          have hM0 : M ≤ N := by omega
          by_cases hat : N = L
          · subst hat
            have hM1 : M = 0 := by omega
            have HM1 := Lib.hid hM1
            clear hM1 hb4
            go_wp2_with ((with_reducible show wpList _ _ _ (⟨some 34, _, _, _, _, _⟩ :: _) _ _); refine wpList_copy_splice (o := ⟨some 34, _, _, _, _, _⟩) rfl (.tmp 32) (.tmp 33) 37 37 rfl 9 Try.underlying37 sizeStr (some ⟨w.heap.size, 0, none⟩) ao 0 0 M c rfl rfl w.heap.size N cur 9 HW.out cs (by rw [← HM.out, HM1.out]; simp) (fun hp => absurd hp (by rw [← HM.out, HM1.out]; omega)) (by rw [HC.out, ← HM.out, HM1.out]; omega) hone.out w.heap.size w hb (Nat.le_refl _) ?_; intro w2 HG2 hB2)
            go_roundw
            case rel => exact ⟨j + 1, by go_num, by omega, by rw [HB3.out, HM.out]; go_num, HNX.out w2 HG2.out, hB2⟩
            case measure => simp [intOf]; omega
          · have hlt2 : L < N := by omega
            go_wp2_with ((with_reducible show wpList _ _ _ (⟨some 34, _, _, _, _, _⟩ :: _) _ _); refine wpList_copy_splice (o := ⟨some 34, _, _, _, _, _⟩) rfl (.tmp 32) (.tmp 33) 37 37 rfl 9 Try.underlying37 sizeStr (some ⟨w.heap.size, L, none⟩) ao (N - L) (N - L) M c rfl rfl w.heap.size L cur 9 HW.out cs (by rw [← HM.out]; show M = min _ _; omega) (fun hp => ⟨rfl, HRD.out.src hp⟩) (by rw [HC.out, ← HM.out]; omega) hone.out w.heap.size w hb (Nat.le_refl _) ?_; intro w2 HG2 hB2)
            go_roundw
            case rel => exact ⟨j + 1, by go_num, by omega, by rw [HB3.out, HM.out]; go_num, HNX.out w2 HG2.out, hB2⟩
            case measure => simp [intOf]; omega
        · obtain rfl : j = k := by omega
          have hall := flatStr_all rows j (by have := HN.out; omega)
          have hfin := hW.out
          rw [hall, List.drop_of_length_le (by rw [HZL.out, HNE.out]; exact Nat.le_refl _), List.append_nil] at hfin
          have HF := Lib.hid hfin
          clear hall hfin hW
          go_wp2
          go_ret
          refine ⟨_, rfl, w.heap.size, ?_, Nat.le_refl _, HF.out, hb⟩
          rw [← HNE.out]
          rfl
end Go.Proofs.Ytdbklklmpnlinaa
