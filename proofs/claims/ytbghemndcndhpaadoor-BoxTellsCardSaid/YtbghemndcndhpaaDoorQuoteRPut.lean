/- The document's own 'Put' (bowerref02): a text's quote. Condition: a text of at most 2^30 bytes. -/
import Derived.Test.YtbghemndcndhpaaDoorQuoteRPart
import Derived.Deep.QuietTactic
import Derived.BigQuiet
import Derived.IntWalk
import Derived.WalkSmall
namespace Go.Proofs.YtbghemndcndhpaaDoor
open Go.RowKit

def rput (ps : List (List UInt8 × Bool)) : List UInt8 := 34 :: ps.flatMap fun p => rpart p.1 p.2

theorem pcs_piece (l : List UInt8) : ∀ p ∈ pcs l, 0 < p.1.length ∧ p.1.length ≤ 4 := by
  by_cases h : l = []
  · subst h; rw [pcs_nil]; simp
  · rw [pcs_cons h]
    intro p hp
    rcases List.mem_cons.1 hp with rfl | hp
    · have h1 := width_le l h
      have h2 := width_sz l h
      have h3 := (dec_sz l h).2.2.2.2.2
      show 0 < (l.take (dec l).2).length ∧ (l.take (dec l).2).length ≤ 4
      rw [List.length_take]
      omega
    · exact pcs_piece _ p hp
termination_by l.length
decreasing_by exact drop_lt l h

set_option maxHeartbeats 1600000 in
set_option maxRecDepth 100000 in
theorem rput_any (s : ByteArray) (w : World) (hs : s.size ≤ 1073741824) :
    Calls Tryd.prog 31 #[.string s] w fun e w' => e = .returned (.string (txt (put s.data.toList))) ∧ Below w.heap.size w w' := by
  have hpl := pcs_len s.data.toList
  rw [len_toList] at hpl
  have hfl := fun k => flat_take (pcs s.data.toList) (fun p => rpart p.1 p.2) k
  rw [rparts_qs] at hfl
  have hql := qs_len s.data.toList
  rw [len_toList] at hql
  have hpc := pcs_piece s.data.toList
  have hput : put s.data.toList = rput (pcs s.data.toList) ++ [34] := by unfold put rput; rw [rparts_qs]
  go_enter Tryd.func31, Tryd.ntmps31
  go_wp2_with fail
  refine (parts_any s _ (by omega)).mono ?_
  rintro e w1 ⟨v4, v5, rfl, h4, h5, _, hb⟩
  obtain ⟨a4, c4, rfl⟩ := row_form h4
  obtain ⟨a5, c5, rfl⟩ := row_form h5
  have HR4 := Lib.hid (fun j hj => row_at h4 j hj)
  have HR5 := Lib.hid (fun j hj => row_at h5 j hj)
  clear h4 h5
  have HP := Lib.hid hput
  clear hput
  generalize qs s.data.toList = QL at *
  generalize hP : pcs s.data.toList = P at *
  generalize hN : P.length = N at *
  go_wp2
  go_loopw [5, 6] (fun v5 v6 wr => ∃ i : Nat, v5 = .string (txt (rput (P.take i))) ∧ v6 = .int .i64 i ∧ i ≤ N ∧ Below w1.heap.size w1 wr) (fun _ v6 _ => N - (intOf v6).toNat)
  case atStart => exact ⟨0, rfl, rfl, Nat.zero_le _, Below.refl _ _⟩
  case round =>
    obtain ⟨i, rfl, rfl, hi, hbw⟩ := hrel
    by_cases hlt : i < N
    · obtain ⟨g4, rfl, hc4⟩ := HR4.out i hlt
      obtain ⟨g5, rfl, hc5⟩ := HR5.out i hlt
      have hP2 : P[i]? = some (P[i]'(by omega)) := List.getElem?_eq_getElem (by omega)
      rw [List.getElem?_map, hP2] at hc4 hc5
      have k4 : w1.cell? ⟨g4, i, none⟩ = some (.string (txt (P[i]'(by omega)).1)) := hc4
      have k5 : w1.cell? ⟨g5, i, none⟩ = some (.bool (P[i]'(by omega)).2) := hc5
      have hcell4 : wr.cell? ⟨g4, i, none⟩ = some (.string (txt (P[i]'(by omega)).1)) := by
        rw [← k4]; exact World.cell?_of_block (hbw.block g4 (World.block_lt_of_cell? w1 _ k4))
      have hcell5 : wr.cell? ⟨g5, i, none⟩ = some (.bool (P[i]'(by omega)).2) := by
        rw [← k5]; exact World.cell?_of_block (hbw.block g5 (World.block_lt_of_cell? w1 _ k5))
      obtain ⟨p1, p2⟩ := hpc (P[i]'(by omega)) (List.getElem_mem _)
      have hm2 : txt (rput (P.take (i + 1))) = txt (rput (P.take i)) ++ txt (rpart (P[i]'(by omega)).1 (P[i]'(by omega)).2) := by
        unfold rput
        rw [List.take_add_one, hP2, List.flatMap_append, txt_append]
        simp
      have hbd : (txt (rput (P.take i))).size + (txt (rpart (P[i]'(by omega)).1 (P[i]'(by omega)).2)).size ≤ 9223372036854775807 := by
        have h1 := hfl (i + 1)
        have h2 := congrArg ByteArray.size hm2
        rw [txt_size, ByteArray.size_append] at h2
        unfold rput at h2 ⊢
        simp only [List.length_cons] at h2
        omega
      have hcall : ∀ w, Calls Tryd.prog 38 #[.string (txt (P[i]'(by omega)).1), .bool (P[i]'(by omega)).2] w fun e w' => e = .returned (.string (txt (rpart (P[i]'(by omega)).1 (P[i]'(by omega)).2))) ∧ w' = w := fun w => by
        have h := rpart_any (txt (P[i]'(by omega)).1) (P[i]'(by omega)).2 w (by rw [txt_size]; exact p1) (by rw [txt_size]; exact p2)
        rw [txt_data] at h
        exact h.mono fun e w' ⟨h1, h2⟩ => ⟨h1, h2.symm⟩
      have HM := Lib.hid hm2
      have HCA := fun w => Lib.hid (hcall w)
      have HBW := Lib.hid hbw
      clear hc4 hc5 hm2 hP2 hcall k4 k5 hbw
      generalize txt (rpart (P[i]'(by omega)).1 (P[i]'(by omega)).2) = D at *
      generalize txt (P[i]'(by omega)).1 = X at *
      generalize (P[i]'(by omega)).2 = b at *
      generalize txt (rput (P.take i)) = acc at *
      go_wp2_with fail
      go_quiet ((go_at_call 38; exact Calls.quiet_of_same (HCA _).out))
      go_wp2
      go_roundw
      case rel => exact ⟨i + 1, by rw [HM.out], by go_num, by omega, below_drewN HBW.out _⟩
      case measure => simp [intOf]; omega
    · have he : txt (put s.data.toList) = txt (rput (P.take i)) ++ (⟨#[34]⟩ : ByteArray) := by
        rw [HP.out, List.take_of_length_le (show P.length ≤ i by omega), show (⟨#[34]⟩ : ByteArray) = txt [34] from rfl, txt_append]
      have hbd : (txt (rput (P.take i))).size ≤ 9223372036854775806 := by
        have h1 := hfl i
        rw [txt_size]
        unfold rput
        simp only [List.length_cons]
        omega
      have HE := Lib.hid he
      have hb2 := hb.trans (hbw.mono hb.size)
      clear he
      generalize txt (rput (P.take i)) = acc at *
      go_wp2
      go_ret
      exact ⟨ret_val (by rw [HE.out]; rfl), hb2⟩
end Go.Proofs.YtbghemndcndhpaaDoor
