/- The law BoxSame, walked: it returns true for every two items whose numbers are numbers. Condition: the table of powers of ten is laid. -/
import Derived.Test.YtbghemndcndhpaaDoorBoxMid
import Derived.Test.YtbghemndcndhpaaDoorBoxRSame
import Derived.Deep.DeepCutAuto
namespace Go.Proofs.YtbghemndcndhpaaDoor
open Go.RowKit

/-- The two boxes, and where they lie. -/
def SameAt (B : Nat) (w w' : World) (x y : Itm) (s5 s6 : Value) : Prop :=
  ∃ (ga gb : Nat) (va vb : Value), s5 = .pointer (some ⟨ga, 0, none⟩) ∧ s6 = .pointer (some ⟨gb, 0, none⟩) ∧ w'.cell? ⟨ga, 0, none⟩ = some va ∧ w'.cell? ⟨gb, 0, none⟩ = some vb ∧
    BoxIs (fun k => k < w'.heap.size) w' (cutB (bxI x)) va ∧ BoxIs (fun k => k < w'.heap.size) w' (cutB (bxI y)) vb ∧ Below B w w'

theorem show_q {a b : Bx} {q : Bool} (hq : q = true ↔ a = b) : ((txt (showB a)).toList == (txt (showB b)).toList) = q := by
  rw [Bool.eq_iff_iff, hq, beq_iff_eq, ByteArray.toList_eq, ByteArray.toList_eq, txt_data, txt_data]
  exact show_same a b

theorem says_q {w w' : World} {e : Ending} {p : Prop} {q : Bool} (hq : q = true ↔ p) (h : Says w w' e p) : e = .returned (.bool q) ∧ Below w.heap.size w w' := by
  obtain ⟨r, h1, h2, h3⟩ := h
  have : r = q := by rw [Bool.eq_iff_iff, h2, hq]
  rw [← this]
  exact ⟨h1, h3⟩

set_option maxHeartbeats 40000000 in
set_option maxRecDepth 100000 in
theorem same_law (S T : Nat → Prop) (x y : Itm) (vx vy : Value) (w : World) (hs : Sits S w x vx) (hs2 : Sits T w y vy) (hok : okI x) (hok2 : okI y) (ht : Tab w.heap.size w) :
    Calls Tryd.prog 4 #[vx, vy] w fun e w' => e = .returned (.bool true) ∧ Below w.heap.size w w' := by
  obtain ⟨k, n, s, ao, len, c, rfl⟩ := hs.form4
  obtain ⟨k2, n2, s2, ao2, len2, c2, rfl⟩ := hs2.form4
  obtain ⟨W1, hW1⟩ : ∃ W1, W1 = (w.alloc (.cells #[.int .i64 k, .int .u64 n, .string s, .slice ao len c] 25)).alloc (.cells #[.int .i64 k2, .int .u64 n2, .string s2, .slice ao2 len2 c2] 25) := ⟨_, rfl⟩
  have hb1 : Below w.heap.size w W1 := by rw [hW1]; exact (one_alloc w _).2.alloc (by simp) _
  have hf1 : Four W1 w.heap.size k n s (.slice ao len c) := by rw [hW1]; exact (Four.alloc w k n s (.slice ao len c)).keep (alloc_below _ _)
  have hf2 : Four W1 (w.heap.size + 1) k2 n2 s2 (.slice ao2 len2 c2) := by
    have h := Four.alloc (w.alloc (.cells #[.int .i64 k, .int .u64 n, .string s, .slice ao len c] 25)) k2 n2 s2 (.slice ao2 len2 c2)
    rw [World.size_alloc] at h
    rw [hW1]
    exact h
  have HLT := Lib.hid (light_any S x _ W1 (hs.below hb1) hok)
  have HLT2 := Lib.hid (fun (W : World) (hW : Below W1.heap.size W1 W) => light_any T y _ W ((hs2.below hb1).below hW) hok2)
  have HS := Lib.hid (hs.below hb1)
  have HS2 := Lib.hid (hs2.below hb1)
  have HT := Lib.hid ht
  have HOK := Lib.hid hok
  have HOK2 := Lib.hid hok2
  have HB1 := Lib.hid hb1
  have HF1 := Lib.hid hf1
  have HF2 := Lib.hid hf2
  have HW1 := Lib.hid hW1
  have HLV : Hid (∀ W, Below W1.heap.size W1 W → Calls Tryd.prog 7 #[] W fun e w' => e = .returned (.bool true) ∧ Below w.heap.size w w') := Lib.hid (fun W hW => by
    have hw := HB1.out.trans (hW.mono HB1.out.size)
    exact (lives_any W ((HT.out.below hw).at_ hw.size)).mono (fun _ _ ⟨h1, h2⟩ => ⟨h1, hw.trans (h2.mono hw.size)⟩))
  clear hs hs2 hok hok2 ht hb1 hf1 hf2 hW1
  go_enter Tryd.func4, Tryd.ntmps4
  go_wp2_with fail
  rw [← HW1.out]
  refine HLT.out.mono ?_
  rintro e w2 ⟨b, rfl, hbw, hb2⟩
  have HBW := Lib.hid hbw
  have HB2 := Lib.hid hb2
  have e0 := (HF2.out.keep hb2).c0
  have e1 := (HF2.out.keep hb2).c1
  have e2 := (HF2.out.keep hb2).c2
  have e3 := (HF2.out.keep hb2).c3
  clear hbw hb2
  cases b with
  | false =>
    go_wp2_with fail
    refine (HLV.out _ HB2.out).mono ?_
    rintro e w3 ⟨rfl, hb3⟩
    have HB3 := Lib.hid hb3
    clear hb3
    go_wp2
    go_ret
    exact ⟨rfl, HB3.out⟩
  | true =>
    go_wp2_with fail
    refine (HLT2.out _ HB2.out).mono ?_
    rintro e W0 ⟨b, rfl, hbw2, hb3⟩
    have HBW2 := Lib.hid hbw2
    have HB3 := Lib.hid (HB2.out.trans (hb3.mono HB2.out.size))
    clear hbw2 hb3 e0 e1 e2 e3
    cases b with
    | false =>
      go_wp2_with fail
      refine (HLV.out _ HB3.out).mono ?_
      rintro e w3 ⟨rfl, hb3⟩
      have HB4 := Lib.hid hb3
      clear hb3
      go_wp2
      go_ret
      exact ⟨rfl, HB4.out⟩
    | true =>
    have hw := HBW.out (by simp)
    have hw2 := HBW2.out (by simp)
    have HG1 := Lib.hid (HF1.out.keep HB3.out)
    have HG2 := Lib.hid (HF2.out.keep HB3.out)
    have HS0 := Lib.hid (HS.out.below HB3.out)
    have HS20 := Lib.hid (HS2.out.below HB3.out)
    have HC : Hid (∀ W, Below W0.heap.size W0 W → (((W.cell? ⟨w.heap.size, 0, none⟩ = some (.int .i64 k) ∧ W.cell? ⟨w.heap.size, 1, none⟩ = some (.int .u64 n) ∧ W.cell? ⟨w.heap.size, 2, none⟩ = some (.string s) ∧ W.cell? ⟨w.heap.size, 3, none⟩ = some (.slice ao len c)) ∧ W.cell? ⟨w.heap.size + 1, 0, none⟩ = some (.int .i64 k2) ∧ W.cell? ⟨w.heap.size + 1, 1, none⟩ = some (.int .u64 n2) ∧ W.cell? ⟨w.heap.size + 1, 2, none⟩ = some (.string s2) ∧ W.cell? ⟨w.heap.size + 1, 3, none⟩ = some (.slice ao2 len2 c2)) ∧ Below W0.heap.size W0 W)) := Lib.hid (fun W h => ⟨⟨⟨(HG1.out.keep h).c0, (HG1.out.keep h).c1, (HG1.out.keep h).c2, (HG1.out.keep h).c3⟩, (HG2.out.keep h).c0, (HG2.out.keep h).c1, (HG2.out.keep h).c2, (HG2.out.keep h).c3⟩, h⟩)
    have HBX : Hid (∀ W, (((W.cell? ⟨w.heap.size, 0, none⟩ = some (.int .i64 k) ∧ W.cell? ⟨w.heap.size, 1, none⟩ = some (.int .u64 n) ∧ W.cell? ⟨w.heap.size, 2, none⟩ = some (.string s) ∧ W.cell? ⟨w.heap.size, 3, none⟩ = some (.slice ao len c)) ∧ W.cell? ⟨w.heap.size + 1, 0, none⟩ = some (.int .i64 k2) ∧ W.cell? ⟨w.heap.size + 1, 1, none⟩ = some (.int .u64 n2) ∧ W.cell? ⟨w.heap.size + 1, 2, none⟩ = some (.string s2) ∧ W.cell? ⟨w.heap.size + 1, 3, none⟩ = some (.slice ao2 len2 c2)) ∧ Below W0.heap.size W0 W) → Calls Tryd.prog 8 #[.agg #[.int .i64 k, .int .u64 n, .string s, .slice ao len c]] W fun e w' => ∃ u, e = .returned (.agg #[u]) ∧ BoxIs (fun k => W.heap.size ≤ k ∧ k < w'.heap.size) w' (cutB (bxI x)) u ∧ Below W.heap.size W w' ∧ Below W0.heap.size W0 w') := Lib.hid (fun W h => (law_any x S _ W (HS0.out.below h.2) HOK.out (by omega)).mono (fun e w' ⟨u, h1, h2, h3⟩ => ⟨u, h1, h2, h3, h.2.trans (h3.mono h.2.size)⟩))
    have HBY : Hid (∀ W, (((W.cell? ⟨w.heap.size, 0, none⟩ = some (.int .i64 k) ∧ W.cell? ⟨w.heap.size, 1, none⟩ = some (.int .u64 n) ∧ W.cell? ⟨w.heap.size, 2, none⟩ = some (.string s) ∧ W.cell? ⟨w.heap.size, 3, none⟩ = some (.slice ao len c)) ∧ W.cell? ⟨w.heap.size + 1, 0, none⟩ = some (.int .i64 k2) ∧ W.cell? ⟨w.heap.size + 1, 1, none⟩ = some (.int .u64 n2) ∧ W.cell? ⟨w.heap.size + 1, 2, none⟩ = some (.string s2) ∧ W.cell? ⟨w.heap.size + 1, 3, none⟩ = some (.slice ao2 len2 c2)) ∧ Below W0.heap.size W0 W) → Calls Tryd.prog 8 #[.agg #[.int .i64 k2, .int .u64 n2, .string s2, .slice ao2 len2 c2]] W fun e w' => ∃ u, e = .returned (.agg #[u]) ∧ BoxIs (fun k => W.heap.size ≤ k ∧ k < w'.heap.size) w' (cutB (bxI y)) u ∧ Below W.heap.size W w' ∧ Below W0.heap.size W0 w') := Lib.hid (fun W h => (law_any y T _ W (HS20.out.below h.2) HOK2.out (by omega)).mono (fun e w' ⟨u, h1, h2, h3⟩ => ⟨u, h1, h2, h3, h.2.trans (h3.mono h.2.size)⟩))
    clear HLT HLT2 HS HS2 HW1
    go_upto_region 3 with fail
    go_cut [5, 6] (fun s5 s6 wx => SameAt W0.heap.size W0 wx x y s5 s6)
    case first =>
      rcases box_form2 (cutB (bxI x)) with HFA | HFA
      all_goals rcases box_form2 (cutB (bxI y)) with HFB | HFB
      · as_aux_lemma =>
          have hS0 := HC.out W0.drew (Below.refl _ _).drew
          go_region_held_law (fun W => (((W.cell? ⟨w.heap.size, 0, none⟩ = some (.int .i64 k) ∧ W.cell? ⟨w.heap.size, 1, none⟩ = some (.int .u64 n) ∧ W.cell? ⟨w.heap.size, 2, none⟩ = some (.string s) ∧ W.cell? ⟨w.heap.size, 3, none⟩ = some (.slice ao len c)) ∧ W.cell? ⟨w.heap.size + 1, 0, none⟩ = some (.int .i64 k2) ∧ W.cell? ⟨w.heap.size + 1, 1, none⟩ = some (.int .u64 n2) ∧ W.cell? ⟨w.heap.size + 1, 2, none⟩ = some (.string s2) ∧ W.cell? ⟨w.heap.size + 1, 3, none⟩ = some (.slice ao2 len2 c2)) ∧ Below W0.heap.size W0 W))
            (first | (with_reducible exact hS0) | (with_reducible exact hS3) | (with_reducible exact hS4) | ((with_reducible refine HC.out _ ?_); repeat' (first | (with_reducible assumption) | (with_reducible exact Below.refl _ _) | (with_reducible refine Below.drew ?_) | (with_reducible refine Below.alloc ?_ ?_ _) | (with_reducible refine Below.setCell ?_ ?_ _) | omega | (simp <;> omega))))
            (first
              | (go_at_call 8; (with_reducible refine (HBX.out _ (by assumption)).mono ?_); rintro e w3 ⟨u, rfl, hu, hb3, hB3⟩; (obtain rfl := HFA.out _ _ _ hu); have hS3 := HC.out _ hB3; obtain ⟨hc3, hf3⟩ := bcell hb3; have hz3 := hb3.size; have hzz3 := hB3.size; (try simp at hz3); (first | (have hx3 : W0.heap.size < w3.heap.size := by omega) | skip); (first | (have hy3 : W0.heap.size + 1 < w3.heap.size := by omega) | (have hy3 : W0.heap.size < w3.heap.size := by omega) | skip))
              | (go_at_call 8; (with_reducible refine (HBY.out _ (by assumption)).mono ?_); rintro e w4 ⟨u2, rfl, hu2, hb4, hB4⟩; (obtain rfl := HFB.out _ _ _ hu2); have hS4 := HC.out _ hB4; obtain ⟨hc4, hf4⟩ := bcell hb4; have hz4 := hb4.size; have hzz4 := hB4.size; (try simp at hz4); (first | (have hx4 : W0.heap.size + 1 < w4.heap.size := by omega) | (have hx4 : W0.heap.size < w4.heap.size := by omega) | skip); (first | (have hx5 : W0.heap.size < w4.heap.size := by omega) | skip); (first | (have hx6 : w3.heap.size < w4.heap.size := by omega) | skip); (first | (have hy4 : w3.heap.size + 1 < w4.heap.size := by omega) | (have hy4 : w3.heap.size < w4.heap.size := by omega) | skip)))
          all_goals
            go_wp2_with fail
            go_meet
            refine ⟨_, _, .nilIface, .nilIface, rfl, rfl, ?_, ?_, ?_, ?_, ?_⟩
            · first | (go_simp; done) | (go_simp; refine World.cell?_setCell_same' _ _ _ ?_; go_simp)
            · first | (go_simp; done) | (go_simp; refine World.cell?_setCell_same' _ _ _ ?_; go_simp)
            · refine BoxIs.keep (fun k hk => ⟨Nat.lt_of_lt_of_le hk.2 ?_, fun _ => (?_ : Mid _ _ _ _) k hk.1 hk.2⟩) _ _ hu
              · simp <;> omega
              · repeat' (first | (with_reducible exact Mid.refl _ _ _) | (with_reducible refine Mid.set ?_ ?_) | (with_reducible refine Mid.alloc ?_ ?_) | (with_reducible refine Mid.below ?_ ?_ hb4) | omega | (simp <;> omega))
            · refine BoxIs.keep (fun k hk => ⟨Nat.lt_of_lt_of_le hk.2 ?_, fun _ => (?_ : Mid _ _ w4 _) k hk.1 hk.2⟩) _ _ hu2
              · simp <;> omega
              · repeat' (first | (with_reducible exact Mid.refl _ _ _) | (with_reducible refine Mid.set ?_ ?_) | (with_reducible refine Mid.alloc ?_ ?_) | (with_reducible refine Mid.below ?_ ?_ hb4) | omega | (simp <;> omega))
            · repeat' (first | (with_reducible assumption) | (with_reducible exact Below.refl _ _) | (with_reducible refine Below.drew ?_) | (with_reducible refine Below.alloc ?_ ?_ _) | (with_reducible refine Below.setCell ?_ ?_ _) | omega | (simp <;> omega))
      · as_aux_lemma =>
          have hS0 := HC.out W0.drew (Below.refl _ _).drew
          go_region_held_law (fun W => (((W.cell? ⟨w.heap.size, 0, none⟩ = some (.int .i64 k) ∧ W.cell? ⟨w.heap.size, 1, none⟩ = some (.int .u64 n) ∧ W.cell? ⟨w.heap.size, 2, none⟩ = some (.string s) ∧ W.cell? ⟨w.heap.size, 3, none⟩ = some (.slice ao len c)) ∧ W.cell? ⟨w.heap.size + 1, 0, none⟩ = some (.int .i64 k2) ∧ W.cell? ⟨w.heap.size + 1, 1, none⟩ = some (.int .u64 n2) ∧ W.cell? ⟨w.heap.size + 1, 2, none⟩ = some (.string s2) ∧ W.cell? ⟨w.heap.size + 1, 3, none⟩ = some (.slice ao2 len2 c2)) ∧ Below W0.heap.size W0 W))
            (first | (with_reducible exact hS0) | (with_reducible exact hS3) | (with_reducible exact hS4) | ((with_reducible refine HC.out _ ?_); repeat' (first | (with_reducible assumption) | (with_reducible exact Below.refl _ _) | (with_reducible refine Below.drew ?_) | (with_reducible refine Below.alloc ?_ ?_ _) | (with_reducible refine Below.setCell ?_ ?_ _) | omega | (simp <;> omega))))
            (first
              | (go_at_call 8; (with_reducible refine (HBX.out _ (by assumption)).mono ?_); rintro e w3 ⟨u, rfl, hu, hb3, hB3⟩; (obtain rfl := HFA.out _ _ _ hu); have hS3 := HC.out _ hB3; obtain ⟨hc3, hf3⟩ := bcell hb3; have hz3 := hb3.size; have hzz3 := hB3.size; (try simp at hz3); (first | (have hx3 : W0.heap.size < w3.heap.size := by omega) | skip); (first | (have hy3 : W0.heap.size + 1 < w3.heap.size := by omega) | (have hy3 : W0.heap.size < w3.heap.size := by omega) | skip))
              | (go_at_call 8; (with_reducible refine (HBY.out _ (by assumption)).mono ?_); rintro e w4 ⟨u2, rfl, hu2, hb4, hB4⟩; (obtain ⟨ut2, uz2, rfl⟩ := HFB.out _ _ _ hu2); have hS4 := HC.out _ hB4; obtain ⟨hc4, hf4⟩ := bcell hb4; have hz4 := hb4.size; have hzz4 := hB4.size; (try simp at hz4); (first | (have hx4 : W0.heap.size + 1 < w4.heap.size := by omega) | (have hx4 : W0.heap.size < w4.heap.size := by omega) | skip); (first | (have hx5 : W0.heap.size < w4.heap.size := by omega) | skip); (first | (have hx6 : w3.heap.size < w4.heap.size := by omega) | skip); (first | (have hy4 : w3.heap.size + 1 < w4.heap.size := by omega) | (have hy4 : w3.heap.size < w4.heap.size := by omega) | skip)))
          all_goals
            go_wp2_with fail
            go_meet
            refine ⟨_, _, .nilIface, (.iface ut2 uz2), rfl, rfl, ?_, ?_, ?_, ?_, ?_⟩
            · first | (go_simp; done) | (go_simp; refine World.cell?_setCell_same' _ _ _ ?_; go_simp)
            · first | (go_simp; done) | (go_simp; refine World.cell?_setCell_same' _ _ _ ?_; go_simp)
            · refine BoxIs.keep (fun k hk => ⟨Nat.lt_of_lt_of_le hk.2 ?_, fun _ => (?_ : Mid _ _ _ _) k hk.1 hk.2⟩) _ _ hu
              · simp <;> omega
              · repeat' (first | (with_reducible exact Mid.refl _ _ _) | (with_reducible refine Mid.set ?_ ?_) | (with_reducible refine Mid.alloc ?_ ?_) | (with_reducible refine Mid.below ?_ ?_ hb4) | omega | (simp <;> omega))
            · refine BoxIs.keep (fun k hk => ⟨Nat.lt_of_lt_of_le hk.2 ?_, fun _ => (?_ : Mid _ _ w4 _) k hk.1 hk.2⟩) _ _ hu2
              · simp <;> omega
              · repeat' (first | (with_reducible exact Mid.refl _ _ _) | (with_reducible refine Mid.set ?_ ?_) | (with_reducible refine Mid.alloc ?_ ?_) | (with_reducible refine Mid.below ?_ ?_ hb4) | omega | (simp <;> omega))
            · repeat' (first | (with_reducible assumption) | (with_reducible exact Below.refl _ _) | (with_reducible refine Below.drew ?_) | (with_reducible refine Below.alloc ?_ ?_ _) | (with_reducible refine Below.setCell ?_ ?_ _) | omega | (simp <;> omega))
      · as_aux_lemma =>
          have hS0 := HC.out W0.drew (Below.refl _ _).drew
          go_region_held_law (fun W => (((W.cell? ⟨w.heap.size, 0, none⟩ = some (.int .i64 k) ∧ W.cell? ⟨w.heap.size, 1, none⟩ = some (.int .u64 n) ∧ W.cell? ⟨w.heap.size, 2, none⟩ = some (.string s) ∧ W.cell? ⟨w.heap.size, 3, none⟩ = some (.slice ao len c)) ∧ W.cell? ⟨w.heap.size + 1, 0, none⟩ = some (.int .i64 k2) ∧ W.cell? ⟨w.heap.size + 1, 1, none⟩ = some (.int .u64 n2) ∧ W.cell? ⟨w.heap.size + 1, 2, none⟩ = some (.string s2) ∧ W.cell? ⟨w.heap.size + 1, 3, none⟩ = some (.slice ao2 len2 c2)) ∧ Below W0.heap.size W0 W))
            (first | (with_reducible exact hS0) | (with_reducible exact hS3) | (with_reducible exact hS4) | ((with_reducible refine HC.out _ ?_); repeat' (first | (with_reducible assumption) | (with_reducible exact Below.refl _ _) | (with_reducible refine Below.drew ?_) | (with_reducible refine Below.alloc ?_ ?_ _) | (with_reducible refine Below.setCell ?_ ?_ _) | omega | (simp <;> omega))))
            (first
              | (go_at_call 8; (with_reducible refine (HBX.out _ (by assumption)).mono ?_); rintro e w3 ⟨u, rfl, hu, hb3, hB3⟩; (obtain ⟨ut, uz, rfl⟩ := HFA.out _ _ _ hu); have hS3 := HC.out _ hB3; obtain ⟨hc3, hf3⟩ := bcell hb3; have hz3 := hb3.size; have hzz3 := hB3.size; (try simp at hz3); (first | (have hx3 : W0.heap.size < w3.heap.size := by omega) | skip); (first | (have hy3 : W0.heap.size + 1 < w3.heap.size := by omega) | (have hy3 : W0.heap.size < w3.heap.size := by omega) | skip))
              | (go_at_call 8; (with_reducible refine (HBY.out _ (by assumption)).mono ?_); rintro e w4 ⟨u2, rfl, hu2, hb4, hB4⟩; (obtain rfl := HFB.out _ _ _ hu2); have hS4 := HC.out _ hB4; obtain ⟨hc4, hf4⟩ := bcell hb4; have hz4 := hb4.size; have hzz4 := hB4.size; (try simp at hz4); (first | (have hx4 : W0.heap.size + 1 < w4.heap.size := by omega) | (have hx4 : W0.heap.size < w4.heap.size := by omega) | skip); (first | (have hx5 : W0.heap.size < w4.heap.size := by omega) | skip); (first | (have hx6 : w3.heap.size < w4.heap.size := by omega) | skip); (first | (have hy4 : w3.heap.size + 1 < w4.heap.size := by omega) | (have hy4 : w3.heap.size < w4.heap.size := by omega) | skip)))
          all_goals
            go_wp2_with fail
            go_meet
            refine ⟨_, _, (.iface ut uz), .nilIface, rfl, rfl, ?_, ?_, ?_, ?_, ?_⟩
            · first | (go_simp; done) | (go_simp; refine World.cell?_setCell_same' _ _ _ ?_; go_simp)
            · first | (go_simp; done) | (go_simp; refine World.cell?_setCell_same' _ _ _ ?_; go_simp)
            · refine BoxIs.keep (fun k hk => ⟨Nat.lt_of_lt_of_le hk.2 ?_, fun _ => (?_ : Mid _ _ _ _) k hk.1 hk.2⟩) _ _ hu
              · simp <;> omega
              · repeat' (first | (with_reducible exact Mid.refl _ _ _) | (with_reducible refine Mid.set ?_ ?_) | (with_reducible refine Mid.alloc ?_ ?_) | (with_reducible refine Mid.below ?_ ?_ hb4) | omega | (simp <;> omega))
            · refine BoxIs.keep (fun k hk => ⟨Nat.lt_of_lt_of_le hk.2 ?_, fun _ => (?_ : Mid _ _ w4 _) k hk.1 hk.2⟩) _ _ hu2
              · simp <;> omega
              · repeat' (first | (with_reducible exact Mid.refl _ _ _) | (with_reducible refine Mid.set ?_ ?_) | (with_reducible refine Mid.alloc ?_ ?_) | (with_reducible refine Mid.below ?_ ?_ hb4) | omega | (simp <;> omega))
            · repeat' (first | (with_reducible assumption) | (with_reducible exact Below.refl _ _) | (with_reducible refine Below.drew ?_) | (with_reducible refine Below.alloc ?_ ?_ _) | (with_reducible refine Below.setCell ?_ ?_ _) | omega | (simp <;> omega))
      · as_aux_lemma =>
          have hS0 := HC.out W0.drew (Below.refl _ _).drew
          go_region_held_law (fun W => (((W.cell? ⟨w.heap.size, 0, none⟩ = some (.int .i64 k) ∧ W.cell? ⟨w.heap.size, 1, none⟩ = some (.int .u64 n) ∧ W.cell? ⟨w.heap.size, 2, none⟩ = some (.string s) ∧ W.cell? ⟨w.heap.size, 3, none⟩ = some (.slice ao len c)) ∧ W.cell? ⟨w.heap.size + 1, 0, none⟩ = some (.int .i64 k2) ∧ W.cell? ⟨w.heap.size + 1, 1, none⟩ = some (.int .u64 n2) ∧ W.cell? ⟨w.heap.size + 1, 2, none⟩ = some (.string s2) ∧ W.cell? ⟨w.heap.size + 1, 3, none⟩ = some (.slice ao2 len2 c2)) ∧ Below W0.heap.size W0 W))
            (first | (with_reducible exact hS0) | (with_reducible exact hS3) | (with_reducible exact hS4) | ((with_reducible refine HC.out _ ?_); repeat' (first | (with_reducible assumption) | (with_reducible exact Below.refl _ _) | (with_reducible refine Below.drew ?_) | (with_reducible refine Below.alloc ?_ ?_ _) | (with_reducible refine Below.setCell ?_ ?_ _) | omega | (simp <;> omega))))
            (first
              | (go_at_call 8; (with_reducible refine (HBX.out _ (by assumption)).mono ?_); rintro e w3 ⟨u, rfl, hu, hb3, hB3⟩; (obtain ⟨ut, uz, rfl⟩ := HFA.out _ _ _ hu); have hS3 := HC.out _ hB3; obtain ⟨hc3, hf3⟩ := bcell hb3; have hz3 := hb3.size; have hzz3 := hB3.size; (try simp at hz3); (first | (have hx3 : W0.heap.size < w3.heap.size := by omega) | skip); (first | (have hy3 : W0.heap.size + 1 < w3.heap.size := by omega) | (have hy3 : W0.heap.size < w3.heap.size := by omega) | skip))
              | (go_at_call 8; (with_reducible refine (HBY.out _ (by assumption)).mono ?_); rintro e w4 ⟨u2, rfl, hu2, hb4, hB4⟩; (obtain ⟨ut2, uz2, rfl⟩ := HFB.out _ _ _ hu2); have hS4 := HC.out _ hB4; obtain ⟨hc4, hf4⟩ := bcell hb4; have hz4 := hb4.size; have hzz4 := hB4.size; (try simp at hz4); (first | (have hx4 : W0.heap.size + 1 < w4.heap.size := by omega) | (have hx4 : W0.heap.size < w4.heap.size := by omega) | skip); (first | (have hx5 : W0.heap.size < w4.heap.size := by omega) | skip); (first | (have hx6 : w3.heap.size < w4.heap.size := by omega) | skip); (first | (have hy4 : w3.heap.size + 1 < w4.heap.size := by omega) | (have hy4 : w3.heap.size < w4.heap.size := by omega) | skip)))
          all_goals
            go_wp2_with fail
            go_meet
            refine ⟨_, _, (.iface ut uz), (.iface ut2 uz2), rfl, rfl, ?_, ?_, ?_, ?_, ?_⟩
            · first | (go_simp; done) | (go_simp; refine World.cell?_setCell_same' _ _ _ ?_; go_simp)
            · first | (go_simp; done) | (go_simp; refine World.cell?_setCell_same' _ _ _ ?_; go_simp)
            · refine BoxIs.keep (fun k hk => ⟨Nat.lt_of_lt_of_le hk.2 ?_, fun _ => (?_ : Mid _ _ _ _) k hk.1 hk.2⟩) _ _ hu
              · simp <;> omega
              · repeat' (first | (with_reducible exact Mid.refl _ _ _) | (with_reducible refine Mid.set ?_ ?_) | (with_reducible refine Mid.alloc ?_ ?_) | (with_reducible refine Mid.below ?_ ?_ hb4) | omega | (simp <;> omega))
            · refine BoxIs.keep (fun k hk => ⟨Nat.lt_of_lt_of_le hk.2 ?_, fun _ => (?_ : Mid _ _ w4 _) k hk.1 hk.2⟩) _ _ hu2
              · simp <;> omega
              · repeat' (first | (with_reducible exact Mid.refl _ _ _) | (with_reducible refine Mid.set ?_ ?_) | (with_reducible refine Mid.alloc ?_ ?_) | (with_reducible refine Mid.below ?_ ?_ hb4) | omega | (simp <;> omega))
            · repeat' (first | (with_reducible assumption) | (with_reducible exact Below.refl _ _) | (with_reducible refine Below.drew ?_) | (with_reducible refine Below.alloc ?_ ?_ _) | (with_reducible refine Below.setCell ?_ ?_ _) | omega | (simp <;> omega))
    case rest =>
      obtain ⟨ga, gb, va, vb, rfl, rfl, c5, c6, hba, hbb, hB⟩ := hcut
      obtain ⟨q, hq⟩ : ∃ q : Bool, q = true ↔ cutB (bxI x) = cutB (bxI y) := by
        by_cases h : cutB (bxI x) = cutB (bxI y)
        · exact ⟨true, by simp [h]⟩
        · exact ⟨false, by simp [h]⟩
      have hTT := show_q hq
      have hwb := w_cut (bxI x)
      have hwb2 := w_cut (bxI y)
      have hwx := w_bx x
      have hwy := w_bx y
      have hoa := ok_cut _ (ok_bx x HOK.out)
      have hob := ok_cut _ (ok_bx y HOK2.out)
      have hBW := (HB1.out.trans (HB3.out.mono HB1.out.size)).trans (hB.mono (HB1.out.trans (HB3.out.mono HB1.out.size)).size)
      have HTW := Lib.hid ((HT.out.below hBW).at_ hBW.size)
      have HBW := Lib.hid hBW
      have HBC := Lib.hid hB
      have HQ := Lib.hid hq
      have HC2 : Hid (∀ W, Below wc.heap.size wc W → ((W.cell? ⟨ga, 0, none⟩ = some va ∧ W.cell? ⟨gb, 0, none⟩ = some vb ∧ (W.cell? ⟨w.heap.size, 0, none⟩ = some (.int .i64 k) ∧ W.cell? ⟨w.heap.size, 1, none⟩ = some (.int .u64 n) ∧ W.cell? ⟨w.heap.size, 2, none⟩ = some (.string s) ∧ W.cell? ⟨w.heap.size, 3, none⟩ = some (.slice ao len c)) ∧ W.cell? ⟨w.heap.size + 1, 0, none⟩ = some (.int .i64 k2) ∧ W.cell? ⟨w.heap.size + 1, 1, none⟩ = some (.int .u64 n2) ∧ W.cell? ⟨w.heap.size + 1, 2, none⟩ = some (.string s2) ∧ W.cell? ⟨w.heap.size + 1, 3, none⟩ = some (.slice ao2 len2 c2)) ∧ Below wc.heap.size wc W)) := Lib.hid (fun W h => by
        have hc := (HC.out W (HBC.out.trans (h.mono HBC.out.size))).1
        exact ⟨⟨(h.cell (p := ⟨ga, 0, none⟩) (World.block_lt_of_cell? _ _ c5)).trans c5, (h.cell (p := ⟨gb, 0, none⟩) (World.block_lt_of_cell? _ _ c6)).trans c6, hc.1, hc.2⟩, h⟩)
      have HSM : Hid (∀ W, ((W.cell? ⟨ga, 0, none⟩ = some va ∧ W.cell? ⟨gb, 0, none⟩ = some vb ∧ (W.cell? ⟨w.heap.size, 0, none⟩ = some (.int .i64 k) ∧ W.cell? ⟨w.heap.size, 1, none⟩ = some (.int .u64 n) ∧ W.cell? ⟨w.heap.size, 2, none⟩ = some (.string s) ∧ W.cell? ⟨w.heap.size, 3, none⟩ = some (.slice ao len c)) ∧ W.cell? ⟨w.heap.size + 1, 0, none⟩ = some (.int .i64 k2) ∧ W.cell? ⟨w.heap.size + 1, 1, none⟩ = some (.int .u64 n2) ∧ W.cell? ⟨w.heap.size + 1, 2, none⟩ = some (.string s2) ∧ W.cell? ⟨w.heap.size + 1, 3, none⟩ = some (.slice ao2 len2 c2)) ∧ Below wc.heap.size wc W) → Calls Tryd.prog 21 #[.agg #[va], .agg #[vb]] W fun e w' => e = .returned (.bool q) ∧ Below wc.heap.size wc w') := Lib.hid (fun W h => (same_any (cutB (bxI x)) (cutB (bxI y)) _ _ va vb W (hba.below h.2) (hbb.below h.2) (by omega) (by omega)).mono (fun _ _ hr => by
        obtain ⟨h1, h2⟩ := says_q HQ.out hr
        exact ⟨h1, h.2.trans (h2.mono h.2.size)⟩))
      have HSA : Hid (∀ W, ((W.cell? ⟨ga, 0, none⟩ = some va ∧ W.cell? ⟨gb, 0, none⟩ = some vb ∧ (W.cell? ⟨w.heap.size, 0, none⟩ = some (.int .i64 k) ∧ W.cell? ⟨w.heap.size, 1, none⟩ = some (.int .u64 n) ∧ W.cell? ⟨w.heap.size, 2, none⟩ = some (.string s) ∧ W.cell? ⟨w.heap.size, 3, none⟩ = some (.slice ao len c)) ∧ W.cell? ⟨w.heap.size + 1, 0, none⟩ = some (.int .i64 k2) ∧ W.cell? ⟨w.heap.size + 1, 1, none⟩ = some (.int .u64 n2) ∧ W.cell? ⟨w.heap.size + 1, 2, none⟩ = some (.string s2) ∧ W.cell? ⟨w.heap.size + 1, 3, none⟩ = some (.slice ao2 len2 c2)) ∧ Below wc.heap.size wc W) → Calls Tryd.prog 15 #[.agg #[va]] W fun e w' => e = .returned (.string (txt (showB (cutB (bxI x))))) ∧ Below wc.heap.size wc w') := Lib.hid (fun W h => (shown_any _ _ va W (hba.below h.2) (fun k hk => Nat.lt_of_lt_of_le hk h.2.size) hoa ((HTW.out.below h.2).at_ h.2.size) (by omega)).mono (fun _ _ ⟨h1, h2⟩ => ⟨h1, h.2.trans (h2.mono h.2.size)⟩))
      have HSB : Hid (∀ W, ((W.cell? ⟨ga, 0, none⟩ = some va ∧ W.cell? ⟨gb, 0, none⟩ = some vb ∧ (W.cell? ⟨w.heap.size, 0, none⟩ = some (.int .i64 k) ∧ W.cell? ⟨w.heap.size, 1, none⟩ = some (.int .u64 n) ∧ W.cell? ⟨w.heap.size, 2, none⟩ = some (.string s) ∧ W.cell? ⟨w.heap.size, 3, none⟩ = some (.slice ao len c)) ∧ W.cell? ⟨w.heap.size + 1, 0, none⟩ = some (.int .i64 k2) ∧ W.cell? ⟨w.heap.size + 1, 1, none⟩ = some (.int .u64 n2) ∧ W.cell? ⟨w.heap.size + 1, 2, none⟩ = some (.string s2) ∧ W.cell? ⟨w.heap.size + 1, 3, none⟩ = some (.slice ao2 len2 c2)) ∧ Below wc.heap.size wc W) → Calls Tryd.prog 15 #[.agg #[vb]] W fun e w' => e = .returned (.string (txt (showB (cutB (bxI y))))) ∧ Below wc.heap.size wc w') := Lib.hid (fun W h => (shown_any _ _ vb W (hbb.below h.2) (fun k hk => Nat.lt_of_lt_of_le hk h.2.size) hob ((HTW.out.below h.2).at_ h.2.size) (by omega)).mono (fun _ _ ⟨h1, h2⟩ => ⟨h1, h.2.trans (h2.mono h.2.size)⟩))
      have HCU : Hid (∀ W, ((W.cell? ⟨ga, 0, none⟩ = some va ∧ W.cell? ⟨gb, 0, none⟩ = some vb ∧ (W.cell? ⟨w.heap.size, 0, none⟩ = some (.int .i64 k) ∧ W.cell? ⟨w.heap.size, 1, none⟩ = some (.int .u64 n) ∧ W.cell? ⟨w.heap.size, 2, none⟩ = some (.string s) ∧ W.cell? ⟨w.heap.size, 3, none⟩ = some (.slice ao len c)) ∧ W.cell? ⟨w.heap.size + 1, 0, none⟩ = some (.int .i64 k2) ∧ W.cell? ⟨w.heap.size + 1, 1, none⟩ = some (.int .u64 n2) ∧ W.cell? ⟨w.heap.size + 1, 2, none⟩ = some (.string s2) ∧ W.cell? ⟨w.heap.size + 1, 3, none⟩ = some (.slice ao2 len2 c2)) ∧ Below wc.heap.size wc W) → Calls Tryd.prog 9 #[.agg #[.int .i64 k, .int .u64 n, .string s, .slice ao len c]] W fun e w' => ∃ z k n s ao len c, e = .returned (.agg #[.int .i64 k, .int .u64 n, .string s, .slice ao len c]) ∧ Sits (fun _ => True) w' z (.agg #[.int .i64 k, .int .u64 n, .string s, .slice ao len c]) ∧ (bxI z = cutB (bxI x) ∧ vI z ∧ okI z ∧ wI z ≤ 2000) ∧ Below wc.heap.size wc w') := Lib.hid (fun W h => (cut_any x _ _ W (HS0.out.below (HBC.out.trans (h.2.mono HBC.out.size))) HOK.out (by omega)).mono (fun e w' ⟨u, z, h1, h2, h3, h4, h5, h6, h7⟩ => by
        obtain ⟨k, n, s, ao, len, c, rfl⟩ := h2.form4
        exact ⟨z, k, n, s, ao, len, c, h1, h2.mono (fun _ _ _ => trivial), ⟨h3, h4, h5, by omega⟩, h.2.trans (h7.mono h.2.size)⟩))
      have HCV : Hid (∀ W, ((W.cell? ⟨ga, 0, none⟩ = some va ∧ W.cell? ⟨gb, 0, none⟩ = some vb ∧ (W.cell? ⟨w.heap.size, 0, none⟩ = some (.int .i64 k) ∧ W.cell? ⟨w.heap.size, 1, none⟩ = some (.int .u64 n) ∧ W.cell? ⟨w.heap.size, 2, none⟩ = some (.string s) ∧ W.cell? ⟨w.heap.size, 3, none⟩ = some (.slice ao len c)) ∧ W.cell? ⟨w.heap.size + 1, 0, none⟩ = some (.int .i64 k2) ∧ W.cell? ⟨w.heap.size + 1, 1, none⟩ = some (.int .u64 n2) ∧ W.cell? ⟨w.heap.size + 1, 2, none⟩ = some (.string s2) ∧ W.cell? ⟨w.heap.size + 1, 3, none⟩ = some (.slice ao2 len2 c2)) ∧ Below wc.heap.size wc W) → Calls Tryd.prog 9 #[.agg #[.int .i64 k2, .int .u64 n2, .string s2, .slice ao2 len2 c2]] W fun e w' => ∃ z k n s ao len c, e = .returned (.agg #[.int .i64 k, .int .u64 n, .string s, .slice ao len c]) ∧ Sits (fun _ => True) w' z (.agg #[.int .i64 k, .int .u64 n, .string s, .slice ao len c]) ∧ (bxI z = cutB (bxI y) ∧ vI z ∧ okI z ∧ wI z ≤ 2000) ∧ Below W.heap.size W w' ∧ Below wc.heap.size wc w') := Lib.hid (fun W h => (cut_any y _ _ W (HS20.out.below (HBC.out.trans (h.2.mono HBC.out.size))) HOK2.out (by omega)).mono (fun e w' ⟨u, z, h1, h2, h3, h4, h5, h6, h7⟩ => by
        obtain ⟨k, n, s, ao, len, c, rfl⟩ := h2.form4
        exact ⟨z, k, n, s, ao, len, c, h1, h2.mono (fun _ _ _ => trivial), ⟨h3, h4, h5, by omega⟩, h7, h.2.trans (h7.mono h.2.size)⟩))
      have HRS : Hid (∀ (z1 z2 : Itm) (u1 u2 : Value) (W : World), Sits (fun _ => True) W z1 u1 → Sits (fun _ => True) W z2 u2 → (bxI z1 = cutB (bxI x) ∧ vI z1 ∧ okI z1 ∧ wI z1 ≤ 2000) → (bxI z2 = cutB (bxI y) ∧ vI z2 ∧ okI z2 ∧ wI z2 ≤ 2000) → Below wc.heap.size wc W → Calls Tryd.prog 22 #[u1, u2] W fun e w' => e = .returned (.bool q) ∧ Below wc.heap.size wc w') := Lib.hid (fun z1 z2 u1 u2 W s1 s2 a1 a2 hW => (rsame_any z1 z2 _ _ u1 u2 W s1 s2 a1.2.1 a2.2.1 a1.2.2.1 a2.2.2.1 (by omega) (by omega)).mono (fun _ _ hr => by
        rw [a1.1, a2.1] at hr
        obtain ⟨h1, h2⟩ := says_q HQ.out hr
        exact ⟨h1, hW.trans (h2.mono hW.size)⟩))
      have HL : Hid (∀ W, ((W.cell? ⟨ga, 0, none⟩ = some va ∧ W.cell? ⟨gb, 0, none⟩ = some vb ∧ (W.cell? ⟨w.heap.size, 0, none⟩ = some (.int .i64 k) ∧ W.cell? ⟨w.heap.size, 1, none⟩ = some (.int .u64 n) ∧ W.cell? ⟨w.heap.size, 2, none⟩ = some (.string s) ∧ W.cell? ⟨w.heap.size, 3, none⟩ = some (.slice ao len c)) ∧ W.cell? ⟨w.heap.size + 1, 0, none⟩ = some (.int .i64 k2) ∧ W.cell? ⟨w.heap.size + 1, 1, none⟩ = some (.int .u64 n2) ∧ W.cell? ⟨w.heap.size + 1, 2, none⟩ = some (.string s2) ∧ W.cell? ⟨w.heap.size + 1, 3, none⟩ = some (.slice ao2 len2 c2)) ∧ Below wc.heap.size wc W) → Calls Tryd.prog 7 #[] W fun e w' => e = .returned (.bool true) ∧ Below wc.heap.size wc w') := Lib.hid (fun W h => (lives_any W ((HTW.out.below h.2).at_ h.2.size)).mono (fun _ _ ⟨h1, h2⟩ => ⟨h1, h.2.trans (h2.mono h.2.size)⟩))
      generalize txt (showB (cutB (bxI x))) = TA at *
      generalize txt (showB (cutB (bxI y))) = TB at *
      have hS0 := HC2.out wc.drew (Below.refl _ _).drew
      clear hq hwb hwb2 hwx hwy hoa hob hBW hB hba hbb c5 c6 hw hw2 HC HBX HBY
      cases q
      all_goals
        as_aux_lemma =>
          go_wp2
          go_region_held_law (fun W => ((W.cell? ⟨ga, 0, none⟩ = some va ∧ W.cell? ⟨gb, 0, none⟩ = some vb ∧ (W.cell? ⟨w.heap.size, 0, none⟩ = some (.int .i64 k) ∧ W.cell? ⟨w.heap.size, 1, none⟩ = some (.int .u64 n) ∧ W.cell? ⟨w.heap.size, 2, none⟩ = some (.string s) ∧ W.cell? ⟨w.heap.size, 3, none⟩ = some (.slice ao len c)) ∧ W.cell? ⟨w.heap.size + 1, 0, none⟩ = some (.int .i64 k2) ∧ W.cell? ⟨w.heap.size + 1, 1, none⟩ = some (.int .u64 n2) ∧ W.cell? ⟨w.heap.size + 1, 2, none⟩ = some (.string s2) ∧ W.cell? ⟨w.heap.size + 1, 3, none⟩ = some (.slice ao2 len2 c2)) ∧ Below wc.heap.size wc W))
            (first | (with_reducible exact hS0) | exact HC2.out _ hE1 | exact HC2.out _ hE2 | exact HC2.out _ hE3 | exact HC2.out _ hE4 | exact HC2.out _ hE5 | exact HC2.out _ hE6 | exact HC2.out _ hE7 | assumption)
            (first
              | (go_at_call 21; (with_reducible refine (HSM.out _ (by assumption)).mono ?_); rintro e wa ⟨rfl, hE1⟩)
              | (go_at_call 9; (with_reducible refine (HCU.out _ (by assumption)).mono ?_); rintro e wb ⟨z1, k3, n3, s3, ao3, len3, c3, rfl, hz1, ha1, hE2⟩)
              | (go_at_call 9; (with_reducible refine (HCV.out _ (by assumption)).mono ?_); rintro e wd ⟨z2, k4, n4, s4, ao4, len4, c4, rfl, hz2, ha2, hbw4, hE3⟩; have HRC := Lib.hid (HRS.out z1 z2 _ _ _ (hz1.below hbw4) hz2 ha1 ha2 hE3))
              | (go_at_call 22; (with_reducible refine HRC.out.mono ?_); rintro e we ⟨rfl, hE4⟩)
              | (go_at_call 15; (with_reducible refine (HSA.out _ (by assumption)).mono ?_); rintro e wf ⟨rfl, hE5⟩)
              | (go_at_call 15; (with_reducible refine (HSB.out _ (by assumption)).mono ?_); rintro e wg ⟨rfl, hE6⟩)
              | (go_at_call 7; (with_reducible refine (HL.out _ (by assumption)).mono ?_); rintro e wh ⟨rfl, hE7⟩))
          go_wp2
          go_ret
          exact ⟨rfl, HBW.out.trans (hE7.mono HBW.out.size)⟩
end Go.Proofs.YtbghemndcndhpaaDoor
