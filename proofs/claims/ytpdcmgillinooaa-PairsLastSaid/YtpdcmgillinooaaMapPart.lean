/- (*pairs.Map).part and All: so many pairs from a place on, in new memory. Condition: at most 2^37 pairs. -/
import Derived.Test.YtpdcmgillinooaaMapNext
import Derived.OwnWalk
namespace Go.Proofs.Ytpdcmgillinooaa
open Go.RowKit

theorem drop_two (Z : List Value) (m : Nat) (h : m + 2 ≤ Z.length) : ∃ a b, Z.drop m = a :: b :: Z.drop (m + 2) :=
  ⟨Z[m], Z[m + 1], by rw [List.drop_eq_getElem_cons (by omega : m < Z.length), List.drop_eq_getElem_cons (by omega : m + 1 < Z.length)]⟩

theorem pcells_step (A : List (ByteArray × Int)) (Z : List Value) (p : ByteArray × Int) (m : Nat) (hm : m = A.length) (h : (m + 1) * 2 ≤ Z.length) :
    ((pcells A ++ Z.drop (m * 2)).set (m * 2) (.string p.1)).set (m * 2 + 1) (.int .u64 p.2) = pcells (A ++ [p]) ++ Z.drop ((m + 1) * 2) := by
  have hl := pcells_len A
  rw [← hm] at hl
  obtain ⟨a, b, hd⟩ := drop_two Z (m * 2) (by omega)
  rw [hd, List.set_append_right _ _ (by omega), List.set_append_right _ _ (by omega), hl, show m * 2 - m * 2 = 0 by omega, show m * 2 + 1 - m * 2 = 1 by omega, pcells_append, show (m + 1) * 2 = m * 2 + 2 by omega]
  simp [pcells]

theorem ownp_whole {w : World} {B g : Nat} {ps : List (ByteArray × Int)} (h : Whole w 40 g (pcells ps)) (hB : B ≤ g) (hl : ps.length ≤ maxLen) : OwnP w B (.slice (some ⟨g, 0, none⟩) ps.length ps.length) ps :=
  ⟨pcells_len ps, Or.inr ⟨g, ps.length, (pcells ps).toArray, rfl, hB, h, Nat.le_refl _, hl, by simp [pcells_len], by simp [← pcells_len]⟩⟩

theorem whole_two {w : World} {base n : Nat} {e : TypeId} {g : Nat} {xs : List Value} (h : w.ownsRow base e 2 (.slice (some ⟨g, 0, none⟩) n n) n xs) : Whole w e g xs ∧ xs.length = n * 2 := by
  obtain ⟨h1, h2⟩ := h
  rcases h2 with ⟨h3, _⟩ | ⟨g', cap, cur, h3, h4, h5, h6, h7, h8, h9⟩
  · cases h3
  · injection h3 with e1 e2 e3
    injection e1 with e1
    injection e1 with e1 _ _
    subst e1 e3
    refine ⟨?_, h1⟩
    unfold Whole
    rw [h5]
    have : xs.toArray = cur := by
      rw [← h9]
      have : cur.toList.take (n * 2) = cur.toList := List.take_of_length_le (by simp; omega)
      rw [this]
    rw [this]

/-- So many pairs from a place on. -/
def partP (ss : List (ByteArray × Int)) (f N : Nat) : List (ByteArray × Int) := (ss.drop f).take N
theorem partP_len {ss : List (ByteArray × Int)} {f N : Nat} (h : N = 0 ∨ f + N ≤ ss.length) : (partP ss f N).length = N := by
  unfold partP
  rw [List.length_take, List.length_drop]
  omega
theorem partP_step {ss : List (ByteArray × Int)} {f N i : Nat} (hf : f + N ≤ ss.length) (hi : i < N) : partP ss f i ++ [ntp ss (f + i)] = partP ss f (i + 1) := by
  unfold partP
  rw [List.take_succ_eq_append_getElem (by rw [List.length_drop]; omega), ntp_eq (by omega)]
  simp

set_option maxHeartbeats 8000000 in
set_option maxRecDepth 100000 in
theorem mpart_any (B g f N : Nat) (kv vv : Value) (c : Int) (ss : List (ByteArray × Int)) (w : World) (hm : MapAt w B g kv vv ss) (hl : ss.length ≤ 137438953472) (hc : (c ≤ 0 ∧ N = 0) ∨ (c = N ∧ f + N ≤ ss.length)) (hf : f ≤ 137438953472) :
    Calls Try.prog 34 #[.pointer (some ⟨g, 0, none⟩), .int .i64 f, .int .i64 c] w fun e w' => DelGives w w' e (partP ss f N) := by
  have hNl : N ≤ 137438953472 := by omega
  have hlen := partP_len (ss := ss) (f := f) (N := N) (by omega)
  have HLP := Lib.hid (fun i (hi : i ≤ N) => partP_len (ss := ss) (f := f) (N := i) (by omega))
  have HST := Lib.hid (fun i (hf : f + N ≤ ss.length) (hi : i < N) => partP_step (ss := ss) hf hi)
  have hmax : max c 0 = (N : Int) := by omega
  have HFN : Hid (0 < N → f + N ≤ ss.length) := Lib.hid (fun h => by omega)
  have HM := Lib.hid hm
  have HLEN := Lib.hid hlen
  have HL := Lib.hid hl
  obtain ⟨ao, hkv⟩ := hm.len
  subst hkv
  obtain ⟨bo, hvv⟩ := hm.vs.open
  rw [vcells_len] at hvv
  subst hvv
  obtain ⟨i0, hi, hz0, hz1, hz2⟩ := info_parts infoPair
  have HI := Lib.hid (show _ ∧ _ ∧ _ ∧ _ from ⟨hi, hz0, hz1, hz2⟩)
  clear hm hlen hc hl hi hz0 hz1 hz2
  go_enter Try.func34, Try.ntmps34
  go_wp2_with (refine wpList_make_full _ rfl (.tmp 10) (.tmp 10) 27 rfl w.heap.size 40 i0 (.agg #[.string ⟨#[]⟩, .int .u64 0]) 2 Try.underlying27 HI.out.1 HI.out.2.1 HI.out.2.2.1 .i64 .i64 _ _ N rfl rfl (by omega) (by omega) (by rw [HI.out.2.2.2]; omega) (by unfold maxLen; omega) (Nat.le_refl _) ?_; intro w1 hown hgrow)
  all_goals first | (exfalso; omega) | skip
  all_goals
    have hw1 := whole_two hown
    have HZL := Lib.hid hw1.2
    have hZ := Lib.hid hw1.1
    have hb1 : Below w.heap.size w w1 := (Below.refl _ _).grown hgrow (Nat.le_refl _) (fun _ h => by cases h)
    clear hown hgrow hw1
    generalize (madeCells (Value.cells (.agg #[.string ⟨#[]⟩, .int .u64 0])) (N * 2)).toList = zs at *
    go_loopw [14] (fun s wr => ∃ i : Nat, s = .int .i64 i ∧ i ≤ N ∧ Hid (Whole wr 40 w.heap.size (pcells (partP ss f i) ++ zs.drop (i * 2))) ∧ Hid (Below w.heap.size w wr)) (fun s _ => N - (intOf s).toNat)
    case atStart => exact ⟨0, rfl, Nat.zero_le _, by simpa [partP, pcells] using hZ, Lib.hid hb1⟩
    case round =>
      obtain ⟨i, rfl, hiN, hW, hb⟩ := hrel
      by_cases hlt : i < N
      · have hfN := HFN.out (by omega)
        have M := Lib.hid (HM.out.keepB hb.out)
        have hi2 : f + i < ss.length := by omega
        obtain ⟨kb, hkb, hkh, hkc⟩ := M.out.ks.str (f + i) hi2
        obtain ⟨vb, hvb, hvh, hvc⟩ := M.out.vs.u64 (f + i) hi2
        have h3 : ao = some ⟨kb, 0, none⟩ := by injection hkb
        have h4 : bo = some ⟨vb, 0, none⟩ := by injection hvb
        subst h3 h4
        have c0 := M.out.c0
        have c1 := M.out.c1
        have q0 : wr.frozen? ⟨w.heap.size, i * 2, none⟩ = false := hW.out.frozen
        have q1 : wr.frozen? ⟨w.heap.size, i * 2 + 1, none⟩ = false := hW.out.frozen
        obtain ⟨u0, k0⟩ : ∃ u, wr.cell? ⟨w.heap.size, i * 2, none⟩ = some u := by
          rw [hW.out.cell]
          exact ⟨_, List.getElem?_eq_getElem (by rw [List.length_append, pcells_len, HLP.out i hiN, List.length_drop, HZL.out]; omega)⟩
        obtain ⟨u1, k1⟩ : ∃ u, wr.cell? ⟨w.heap.size, i * 2 + 1, none⟩ = some u := by
          rw [hW.out.cell]
          exact ⟨_, List.getElem?_eq_getElem (by rw [List.length_append, pcells_len, HLP.out i hiN, List.length_drop, HZL.out]; omega)⟩
        have HNEXT := Lib.hid (show Whole ((wr.setCell ⟨w.heap.size, i * 2, none⟩ (.string (ntp ss (f + i)).1)).setCell ⟨w.heap.size, i * 2 + 1, none⟩ (.int .u64 (ntp ss (f + i)).2)) 40 w.heap.size (pcells (partP ss f (i + 1)) ++ zs.drop ((i + 1) * 2)) by
          have h1 := (hW.out.set (i * 2) (.string (ntp ss (f + i)).1)).set (i * 2 + 1) (.int .u64 (ntp ss (f + i)).2)
          rw [pcells_step _ zs (ntp ss (f + i)) i (HLP.out i hiN).symm (by rw [HZL.out]; omega), HST.out i hfN hlt] at h1
          exact h1)
        have s1 : IntKind.i64.wrap ((f : Int) + i) = (f : Int) + i := IntWalk.i64_in _ (by omega)
        have s2 : (0 : Int) ≤ (f : Int) + i := by omega
        have s3 : ((f : Int) + i).toNat = f + i := by omega
        have s4 : (f : Int) + i < ss.length := by omega
        have s5 : (i : Int) < N := by omega
        clear hkb hkh hvb hvh hfN hi2
        generalize ss.length = n at *
        generalize ntp ss (f + i) = p at *
        go_wp2
        go_region
        clear s1 s3
        all_goals
          go_wp2
          go_roundw
          case rel => exact ⟨i + 1, by go_num, by omega, Lib.hid HNEXT.out, Lib.hid ((hb.out.setCell (by simp) _).setCell (by simp) _).drew⟩
          case measure => simp [intOf]; omega
      · obtain rfl : i = N := by omega
        have hfin := hW.out
        rw [List.drop_of_length_le (by rw [HZL.out]; omega), List.append_nil] at hfin
        have HF := Lib.hid hfin
        clear hfin hW
        go_wp2
        go_ret
        refine ⟨_, rfl, ?_, hb.out⟩
        have := ownp_whole HF.out (Nat.le_refl _) (by rw [HLEN.out]; unfold maxLen; omega)
        rw [HLEN.out] at this
        exact this

theorem partP_all (ss : List (ByteArray × Int)) : partP ss 0 ss.length = ss := by simp [partP]

set_option maxHeartbeats 1000000 in
theorem mall_any (B g : Nat) (kv vv : Value) (ss : List (ByteArray × Int)) (w : World) (hm : MapAt w B g kv vv ss) (hl : ss.length ≤ 137438953472) :
    Calls Try.prog 17 #[.pointer (some ⟨g, 0, none⟩)] w fun e w' => DelGives w w' e ss := by
  have HN := Lib.hid (mlen_any B g kv vv ss w hm)
  have HP := mpart_any B g 0 ss.length kv vv ss.length ss w hm hl (Or.inr ⟨rfl, by omega⟩) (by omega)
  rw [partP_all] at HP
  have HP2 := Lib.hid HP
  clear HP hm
  generalize hn : ss.length = n at *
  clear hn
  go_enter Try.func17, Try.ntmps17
  go_wp2_with fail
  refine HN.out.mono ?_
  rintro e w2 ⟨rfl, rfl⟩
  go_wp2_with fail
  refine HP2.out.mono ?_
  rintro e w2 ⟨v, rfl, hO, hb⟩
  go_wp2
  go_ret
  exact ⟨_, rfl, hO, hb⟩
end Go.Proofs.Ytpdcmgillinooaa
