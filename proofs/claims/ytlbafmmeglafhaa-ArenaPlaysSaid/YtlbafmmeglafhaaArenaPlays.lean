/- The law ArenaPlays, walked: whatever is claimed, freed, put and got, an arena answers and has what the document says. Condition: the list's cells are there. -/
import Derived.Test.YtlbafmmeglafhaaArenaPlay
import Derived.Test.YtlbafmmeglafhaaArenaRead
namespace Go.Proofs.Ytlbafmmeglafhaa
open Go.RowKit

abbrev actV (kind at_ ago : Int) (raw : Nat) (y : Int) : Array Value := #[.int .i64 kind, .int .i64 at_, .int .i64 ago, .int .u64 raw, .int .i64 y]
theorem act_cells {V : World} {A : Nat} {kind at_ ago : Int} {raw : Nat} {y : Int} (h : Blk V A 38 (actV kind at_ ago raw y)) :
    V.cell? ⟨A, 0, none⟩ = some (.int .i64 kind) ∧ V.cell? ⟨A, 1, none⟩ = some (.int .i64 at_) ∧ V.cell? ⟨A, 2, none⟩ = some (.int .i64 ago) ∧ V.cell? ⟨A, 3, none⟩ = some (.int .u64 raw) ∧ V.cell? ⟨A, 4, none⟩ = some (.int .i64 y) :=
  ⟨h.cell 0, h.cell 1, h.cell 2, h.cell 3, h.cell 4⟩
theorem act_kept {w w2 : World} {A g h b : Nat} {l l' : List Bk} {cs : Array Value} (hA : Blk w A 38 cs) (H : ArenaAt w b g h l) (hw : AWrote w w2 b g h l') : Blk w2 A 38 cs :=
  hA.keep hw.keep (by
    rintro (e | e)
    · exact H.row.ne_ hA (by decide) e.symm
    · exact H.held.ne_ hA (by decide) e.symm)

theorem doc_x {V : World} {B ga n ca p : Nat} {l : List Bk} (hO : OwnD V B (.slice (some ⟨ga, 0, none⟩) n ca) l) (hp : p < l.length) : V.cell? ⟨ga, p * 3 + 2, none⟩ = some (.int .i64 (xx l p)) := by
  obtain ⟨g', c', e, _, _, hs, _⟩ := hO.open
  injection e with e1 e2 e3
  injection e1 with e1
  injection e1 with e1 _ _
  subst e1
  exact (hs p hp).2.2

set_option maxHeartbeats 64000000 in
set_option maxRecDepth 100000 in
/-- Rounds of the play. -/
theorem aplays_in (n gen : Nat) (hn : 1 ≤ n ∧ n ≤ 40) (hgen : gen ≤ 4294967295) (ao : Option Addr) (len cap : Nat) (X : Nat → It) (w : World) (hx : Items w w.heap.size ao len X) (hok : ∀ i, i < len → (X i).ok) (hlen : len ≤ 80) :
    Calls Try.prog 3 #[.int .i64 n, .int .u64 gen, .slice ao len cap] w fun e w' => e = .returned (.bool true) ∧ Below w.heap.size w w' := by
  have HX := Lib.hid hx
  have HK := Lib.hid hok
  have HLV := Lib.hid (fun W => lives9_any W)
  have HN := Lib.hid (new_in n gen (by omega) hgen w)
  have HDN := Lib.hid (fun W => dnew_any n gen (by omega) W)
  have hq1 : ¬ (80 : Int) < len := by omega
  have hq2 : ¬ (40 : Int) < n := by omega
  have hq3 : ¬ (n : Int) < 1 := by omega
  have hq4 : ¬ (8192 : Int) < n := by omega
  have hq5 : ¬ (4294967295 : Int) < gen := by omega
  obtain ⟨i0, hi, hz0, hz1, hz2⟩ := info_parts infoU64
  have HI := Lib.hid (And.intro hi (And.intro hz0 (And.intro hz1 hz2)))
  have HLL : Hid ((List.replicate n ((leftS gen, gen, 0) : Bk)).length = n) := Lib.hid (List.length_replicate ..)
  clear hx hok hi hz0 hz1 hz2 hgen
  generalize List.replicate n ((leftS gen, gen, 0) : Bk) = L0 at *
  go_enter Try.func3, Try.ntmps3
  go_wp2_with fail
  refine HN.out.mono ?_
  rintro e w1 ⟨b, g, h, rfl, ha, hlow, hb1⟩
  have HM1 := Lib.hid (show MineA w w1 b g h L0 from ⟨ha, hlow, hb1⟩)
  clear ha hlow hb1
  go_wp2_with fail
  refine (HDN.out _).mono ?_
  rintro e w2 ⟨v0, rfl, hO, hb2⟩
  have HP0 : Hid (PlayA w w2 b g h v0 (.slice none 0 0) L0 [] n) := Lib.hid ⟨HM1.out.on hb2, hO.base HM1.out.below.size, OwnU.nil _ _, HLL.out⟩
  clear hO hb2
  go_wp2
  go_loopw [12, 13, 91] (fun sv stt s wr => ∃ (i : Nat) (v tv : Value) (l : List Bk) (T : List Nat), s = .int .i64 i ∧ i ≤ len ∧ sv = v ∧ stt = tv ∧ Hid (PlayA w wr b g h v tv l T n ∧ T.length ≤ i)) (fun _ _ s _ => len - (intOf s).toNat)
  case atStart => exact ⟨0, v0, _, L0, [], rfl, Nat.zero_le _, rfl, rfl, Lib.hid ⟨HP0.out, Nat.le_refl _⟩⟩
  case round =>
    clear HP0 HM1 HN HDN HLL
    obtain ⟨i, v, tv, l, T, rfl, hi, rfl, rfl, hPT⟩ := hrel
    have hP := Lib.hid hPT.out.1
    have HT := Lib.hid hPT.out.2
    clear hPT
    by_cases hlt : i < len
    · obtain ⟨b0, off, rfl, hbN, hc⟩ := (HX.out.keep hP.out.mine.below) i hlt
      have hk := HK.out i hlt
      generalize X i = x at *
      obtain ⟨kind, at_, ago, raw, y⟩ := x
      have HAT := Lib.hid hk.1
      have HRW := Lib.hid hk.2.1
      have HY := Lib.hid hk.2.2
      have c0 := hc 0 _ rfl
      have c1 := hc 1 _ rfl
      have c2 := hc 2 _ rfl
      have c3 := hc 3 _ rfl
      have c4 := hc 4 _ rfl
      rw [Nat.add_zero] at c0
      have P1 := Lib.hid (hP.out.on (one_alloc wr (.cells (actV kind at_ ago raw y) 38)).2)
      have HA := Lib.hid (Blk.new wr 38 (actV kind at_ ago raw y))
      have HLN : Hid (l.length ≤ 8192) := Lib.hid P1.out.mine.arena.len.2
      have HBS : Hid (w.heap.size ≤ wr.heap.size) := Lib.hid hP.out.mine.below.size
      have HT100 : Hid (T.length ≤ 100) := Lib.hid (by have := HT.out; omega)
      obtain ⟨ga, ca, rfl, hca1, hca2, _, _⟩ := P1.out.own.open
      rw [P1.out.len] at hca1
      have hvl : (Value.slice (some ⟨ga, 0, none⟩) l.length ca) = .slice (some ⟨ga, 0, none⟩) n ca := by rw [P1.out.len]
      rw [hvl] at P1 hP
      rw [hvl]
      obtain ⟨ta, tc, rfl, htc, htcm, _⟩ := P1.out.told.open
      have hlt' : (i : Int) < len := by omega
      clear hc hk hvl
      by_cases hk0 : kind = 0
      · subst hk0
        by_cases hce : clE l at_ = 0
        · have HC := Lib.hid (claim_any b g h l at_ _ P1.out.mine.arena)
          have HD := Lib.hid (fun w2 (hO : OwnD w2 w.heap.size (.slice (some ⟨ga, 0, none⟩) n ca) l) hB => dclaim_any _ _ l at_ HAT.out P1.out.mine.arena.fit w2 hO HLN.out hB)
          have HCL := Lib.hid (clL_len l at_)
          have HCW := Lib.hid (clW_lt l at_)
          rw [hce] at HC HD
          have hww : ((clW l at_ : Int) != (clW l at_ : Int)) = false := by simp
          clear hce
          generalize clW l at_ = cw at *
          generalize clL l at_ = l' at *
          go_wp2_with fail
          refine HC.out.mono ?_
          rintro e w2 ⟨rfl, hw2⟩
          have HA2 := Lib.hid (act_kept HA.out P1.out.mine.arena hw2)
          have M2 := Lib.hid (P1.out.wrote hw2 HCL.out)
          clear hw2
          obtain ⟨q0, q1, q2, q3, q4⟩ := act_cells HA2.out
          go_wp2_with fail
          refine (HD.out _ M2.out.own M2.out.mine.below.size).mono ?_
          rintro e w3 ⟨v3, rfl, hO3, hb3⟩
          have P3 := Lib.hid (M2.out.done hO3 hb3)
          have HA3 := Lib.hid (HA2.out.below hb3)
          clear hO3 hb3 q0 q1 q2 q3 q4
          obtain ⟨g3, cg3, hvg3, hxg3, hyg3, _, _⟩ := P3.out.own.open
          rw [P3.out.len] at hvg3 hxg3
          subst hvg3
          obtain ⟨q0, q1, q2, q3, q4⟩ := act_cells HA3.out
          go_wp2_with ((with_reducible show wpList _ _ _ (⟨some 157, _, _, _, _, _⟩ :: _) _ _); refine wpList_append_own _ rfl (.tmp 154) (.tmp 156) 36 rfl w.heap.size 22 i0 (.int .u64 0) 1 8 Try.underlying36 HI.out.1 HI.out.2.1 HI.out.2.2.1 HI.out.2.2.2 rfl (by decide) _ T.length (ucells T) rfl (own_keep P3.out.told.own (one_alloc w3 _).2) ⟨w3.heap.size, 0, none⟩ 1 1 [.int .u64 (cw : Nat)] rfl rfl (one_news w3 (.int .u64 (cw : Nat)) _) (by intro u hu; simp at hu; subst hu; rfl) (by have := HT100.out; unfold maxLen; omega) (by have := HT100.out; omega) (Nat.le_trans P3.out.mine.below.size (by simp)) ?_; intro v9 w9 hown9 hgrow9 _; have P4 := Lib.hid ((P3.out.on (one_alloc w3 _).2).more HCW.out hown9 hgrow9); have HA4 := Lib.hid (Blk.grown (HA3.out.below (one_alloc w3 _).2) (by decide) (P3.out.on (one_alloc w3 _).2).told hgrow9); clear hown9 hgrow9 q0 q1 q2 q3 q4; obtain ⟨q0, q1, q2, q3, q4⟩ := act_cells HA4.out; have HLK := Lib.hid (like9_any _ b g h _ _ _ P4.out.mine.arena P4.out.own))
          refine HLK.out.mono ?_
          rintro e w8 ⟨rfl, hb9⟩
          have P9 := Lib.hid (P4.out.on hb9)
          clear hb9
          go_wp2
          go_roundw
          case rel => exact ⟨i + 1, _, _, _, _, by go_num, by omega, rfl, rfl, Lib.hid ⟨P9.out, by have := HT.out; rw [List.length_append]; simp; omega⟩⟩
          case measure => simp [intOf]; omega
        · have HC := Lib.hid (claim_any b g h l at_ _ P1.out.mine.arena)
          have HD := Lib.hid (fun w2 (hO : OwnD w2 w.heap.size (.slice (some ⟨ga, 0, none⟩) n ca) l) hB => dclaim_any _ _ l at_ HAT.out P1.out.mine.arena.fit w2 hO HLN.out hB)
          have HCL := Lib.hid (clL_len l at_)
          have HCW := Lib.hid (clW_lt l at_)
          have hne0 : ((clE l at_ : Int) == 0) = false := beq_eq_false_iff_ne.2 (by omega)
          have hnn : ((clE l at_ : Int) != (clE l at_ : Int)) = false := by simp
          have hww : ((clW l at_ : Int) != (clW l at_ : Int)) = false := by simp
          clear hce
          generalize clE l at_ = ce at *
          generalize clW l at_ = cw at *
          generalize clL l at_ = l' at *
          go_wp2_with fail
          refine HC.out.mono ?_
          rintro e w2 ⟨rfl, hw2⟩
          have HA2 := Lib.hid (act_kept HA.out P1.out.mine.arena hw2)
          have M2 := Lib.hid (P1.out.wrote hw2 HCL.out)
          clear hw2
          obtain ⟨q0, q1, q2, q3, q4⟩ := act_cells HA2.out
          go_wp2_with fail
          refine (HD.out _ M2.out.own M2.out.mine.below.size).mono ?_
          rintro e w3 ⟨v3, rfl, hO3, hb3⟩
          have P3 := Lib.hid (M2.out.done hO3 hb3)
          have HA3 := Lib.hid (HA2.out.below hb3)
          clear hO3 hb3 q0 q1 q2 q3 q4
          obtain ⟨g3, cg3, hvg3, hxg3, hyg3, _, _⟩ := P3.out.own.open
          rw [P3.out.len] at hvg3 hxg3
          subst hvg3
          obtain ⟨q0, q1, q2, q3, q4⟩ := act_cells HA3.out
          have HTN : Hid (T.length ≤ i + 1) := Lib.hid (by have := HT.out; omega)
          have HLK := Lib.hid (like9_any _ b g h _ _ _ P3.out.mine.arena P3.out.own)
          go_wp2_with fail
          refine HLK.out.mono ?_
          rintro e w9 ⟨rfl, hb9⟩
          have P9 := Lib.hid (P3.out.on hb9)
          clear hb9
          go_wp2
          go_roundw
          case rel => exact ⟨i + 1, _, _, _, _, by go_num, by omega, rfl, rfl, Lib.hid ⟨P9.out, HTN.out⟩⟩
          case measure => simp [intOf]; omega
      by_cases hk1 : kind = 1
      · subst hk1
        have HWL := Lib.hid (wordOf_lt (ago := ago) HRW.out (fun j => P1.out.told.fits j))
        have HWO := Lib.hid (fun V (hO : OwnU V w.heap.size (.slice ta T.length tc) T) => word_any 1 at_ ago raw y _ _ T HT100.out V hO)
        have HF := Lib.hid (fun V (hA : ArenaAt V b g h l) => free_any b g h l (wordOf ago raw T) HWL.out V hA)
        have HDF := Lib.hid (fun V (hO : OwnD V w.heap.size (.slice (some ⟨ga, 0, none⟩) n ca) l) hB => dfree_any _ _ l (wordOf ago raw T) HWL.out V hO HLN.out hB)
        have HCL := Lib.hid (freeL_len l (wordOf ago raw T))
        generalize wordOf ago raw T = wo at *
        have hnn : ((atE l wo : Int) != (atE l wo : Int)) = false := by simp
        generalize atE l wo = ae at *
        generalize freeL l wo = l' at *
        go_wp2_with fail
        refine (HWO.out _ P1.out.told).mono ?_
        rintro e w2 ⟨rfl, hb2⟩
        have P2 := Lib.hid (P1.out.on hb2)
        have HA2 := Lib.hid (HA.out.below hb2)
        clear hb2
        obtain ⟨q0, q1, q2, q3, q4⟩ := act_cells HA2.out
        go_wp2_with fail
        refine (HF.out _ P2.out.mine.arena).mono ?_
        rintro e w3 ⟨rfl, hw3⟩
        have HA3 := Lib.hid (act_kept HA2.out P2.out.mine.arena hw3)
        have M3 := Lib.hid (P2.out.wrote hw3 HCL.out)
        clear hw3
        clear q0 q1 q2 q3 q4
        obtain ⟨q0, q1, q2, q3, q4⟩ := act_cells HA3.out
        go_wp2_with fail
        refine (HWO.out _ M3.out.told).mono ?_
        rintro e w4 ⟨rfl, hb4⟩
        have M4 := Lib.hid (M3.out.on hb4)
        have HA4 := Lib.hid (HA3.out.below hb4)
        clear hb4
        clear q0 q1 q2 q3 q4
        obtain ⟨q0, q1, q2, q3, q4⟩ := act_cells HA4.out
        go_wp2_with fail
        refine (HDF.out _ M4.out.own M4.out.mine.below.size).mono ?_
        rintro e w5 ⟨v5, rfl, hO5, hb5⟩
        have P5 := Lib.hid (M4.out.done hO5 hb5)
        have HA5 := Lib.hid (HA4.out.below hb5)
        clear hO5 hb5
        clear q0 q1 q2 q3 q4
        obtain ⟨g5, cg5, hvg5, hxg5, hyg5, _, _⟩ := P5.out.own.open
        rw [P5.out.len] at hvg5 hxg5
        subst hvg5
        obtain ⟨q0, q1, q2, q3, q4⟩ := act_cells HA5.out
        have HTN : Hid (T.length ≤ i + 1) := Lib.hid (by have := HT.out; omega)
        have HLK := Lib.hid (like9_any _ b g h _ _ _ P5.out.mine.arena P5.out.own)
        go_wp2_with fail
        refine HLK.out.mono ?_
        rintro e w9 ⟨rfl, hb9⟩
        have P9 := Lib.hid (P5.out.on hb9)
        clear hb9
        go_wp2
        go_roundw
        case rel => exact ⟨i + 1, _, _, _, _, by go_num, by omega, rfl, rfl, Lib.hid ⟨P9.out, HTN.out⟩⟩
        case measure => simp [intOf]; omega
      by_cases hk2 : kind = 2
      · subst hk2
        have HWL := Lib.hid (wordOf_lt (ago := ago) HRW.out (fun j => P1.out.told.fits j))
        have HWO := Lib.hid (fun V (hO : OwnU V w.heap.size (.slice ta T.length tc) T) => word_any 2 at_ ago raw y _ _ T HT100.out V hO)
        have HF := Lib.hid (fun V (hA : ArenaAt V b g h l) => put_any b g h l (wordOf ago raw T) HWL.out y HY.out V hA)
        have HDF := Lib.hid (fun V (hO : OwnD V w.heap.size (.slice (some ⟨ga, 0, none⟩) n ca) l) hB => dput_any _ _ l (wordOf ago raw T) HWL.out y V hO HLN.out hB)
        have HCL := Lib.hid (putL_len l (wordOf ago raw T) y)
        generalize wordOf ago raw T = wo at *
        have hnn : ((atE l wo : Int) != (atE l wo : Int)) = false := by simp
        generalize atE l wo = ae at *
        generalize putL l wo y = l' at *
        have hS0 := act_cells (V := (wr.alloc (.cells (actV 2 at_ ago raw y) 38)).drew) HA.out
        go_wp2
        go_region_held_law (fun V => V.cell? ⟨wr.heap.size, 0, none⟩ = some (.int .i64 2) ∧ V.cell? ⟨wr.heap.size, 1, none⟩ = some (.int .i64 at_) ∧ V.cell? ⟨wr.heap.size, 2, none⟩ = some (.int .i64 ago) ∧ V.cell? ⟨wr.heap.size, 3, none⟩ = some (.int .u64 raw) ∧ V.cell? ⟨wr.heap.size, 4, none⟩ = some (.int .i64 y)) (first | (with_reducible exact hS0) | exact act_cells hA2 | exact act_cells hA3 | assumption) (first | (go_at_call 18; (with_reducible refine (HWO.out _ (P1.out.told.below ((Below.refl _ _).drew))).mono ?_); rintro e w2 ⟨rfl, hb2⟩; have P2 := (P1.out.on ((Below.refl _ _).drew)).on hb2; have hA2 := Blk.below (w := (wr.alloc (.cells (actV 2 at_ ago raw y) 38)).drew) HA.out hb2) | (go_at_call 20; (with_reducible refine (HF.out _ P2.mine.arena).mono ?_); rintro e w3 ⟨rfl, hw3⟩; have hA3 := act_kept hA2 P2.mine.arena hw3; have hM3 := P2.wrote hw3 HCL.out))
        have M3 := Lib.hid hM3
        have HA3 := Lib.hid hA3
        clear P2 hA2 hA3 hw3 hM3 hb2
        have hS0 := act_cells (V := w3.drew) HA3.out
        go_wp2
        go_region_held_law (fun V => V.cell? ⟨wr.heap.size, 0, none⟩ = some (.int .i64 2) ∧ V.cell? ⟨wr.heap.size, 1, none⟩ = some (.int .i64 at_) ∧ V.cell? ⟨wr.heap.size, 2, none⟩ = some (.int .i64 ago) ∧ V.cell? ⟨wr.heap.size, 3, none⟩ = some (.int .u64 raw) ∧ V.cell? ⟨wr.heap.size, 4, none⟩ = some (.int .i64 y)) (first | (with_reducible exact hS0) | exact act_cells hA4 | exact act_cells hA5 | assumption) (first | (go_at_call 18; (with_reducible refine (HWO.out _ (M3.out.told.below ((Below.refl _ _).drew))).mono ?_); rintro e w4 ⟨rfl, hb4⟩; have hM4 := (M3.out.on ((Below.refl _ _).drew)).on hb4; have hA4 := Blk.below (w := w3.drew) HA3.out hb4) | (go_at_call 21; (with_reducible refine (HDF.out _ hM4.own hM4.mine.below.size).mono ?_); rintro e w5 ⟨v5, rfl, hO5, hb5⟩; have hA5 := hA4.below hb5; have hP5 := hM4.done hO5 hb5))
        have P5 := Lib.hid hP5
        have HA5 := Lib.hid hA5
        clear hM4 hA4 hA5 hb4 hO5 hb5 hP5
        obtain ⟨g5, cg5, hvg5, hxg5, hyg5, _, _⟩ := P5.out.own.open
        rw [P5.out.len] at hvg5 hxg5
        subst hvg5
        obtain ⟨q0, q1, q2, q3, q4⟩ := act_cells HA5.out
        have HTN : Hid (T.length ≤ i + 1) := Lib.hid (by have := HT.out; omega)
        have HLK := Lib.hid (like9_any _ b g h _ _ _ P5.out.mine.arena P5.out.own)
        go_wp2_with fail
        refine HLK.out.mono ?_
        rintro e w9 ⟨rfl, hb9⟩
        have P9 := Lib.hid (P5.out.on hb9)
        clear hb9
        go_wp2
        go_roundw
        case rel => exact ⟨i + 1, _, _, _, _, by go_num, by omega, rfl, rfl, Lib.hid ⟨P9.out, HTN.out⟩⟩
        case measure => simp [intOf]; omega
      · have n0 : (kind == 0) = false := by simpa using hk0
        have n1 : (kind == 1) = false := by simpa using hk1
        have n2 : (kind == 2) = false := by simpa using hk2
        by_cases hae : atE l (wordOf ago raw T) = 0
        · have HWL := Lib.hid (wordOf_lt (ago := ago) HRW.out (fun j => P1.out.told.fits j))
          have HWO := Lib.hid (fun V (hO : OwnU V w.heap.size (.slice ta T.length tc) T) => word_any kind at_ ago raw y _ _ T HT100.out V hO)
          have HF := Lib.hid (fun V (hA : ArenaAt V b g h l) => get_any b g h l (wordOf ago raw T) HWL.out V hA)
          have HDF := Lib.hid (fun V (hO : OwnD V w.heap.size (.slice (some ⟨ga, 0, none⟩) n ca) l) => dat_any _ _ l (wordOf ago raw T) HWL.out V hO)
          obtain ⟨-, hp, -, -, hap⟩ := at_zero hae
          have HP := Lib.hid hp
          have hgx : getX l (wordOf ago raw T) = xx l (openP (wordOf ago raw T)) := by unfold getX; rw [if_pos hae]
          rw [hgx, hae] at HF
          rw [hap, hae] at HDF
          rw [P1.out.len] at hp
          have hp' : (openP (wordOf ago raw T) : Int) < n := by omega
          have HXC := Lib.hid (fun V (hO : OwnD V w.heap.size (.slice (some ⟨ga, 0, none⟩) n ca) l) => doc_x hO HP.out)
          clear hgx hae hap
          generalize wordOf ago raw T = wo at *
          have hxx : ((xx l (openP wo) : Int) != (xx l (openP wo) : Int)) = false := by simp
          generalize xx l (openP wo) = z at *
          generalize openP wo = p at *
          go_wp2_with fail
          refine (HWO.out _ P1.out.told).mono ?_
          rintro e w2 ⟨rfl, hb2⟩
          have P2 := Lib.hid (P1.out.on hb2)
          have HA2 := Lib.hid (HA.out.below hb2)
          clear hb2
          obtain ⟨q0, q1, q2, q3, q4⟩ := act_cells HA2.out
          go_wp2_with fail
          refine (HF.out _ P2.out.mine.arena).mono ?_
          rintro e w3 ⟨rfl, hb3⟩
          have HA3 := Lib.hid (HA2.out.below hb3)
          have P3 := Lib.hid (P2.out.on hb3)
          clear hb3
          clear q0 q1 q2 q3 q4
          obtain ⟨q0, q1, q2, q3, q4⟩ := act_cells HA3.out
          go_wp2_with fail
          refine (HWO.out _ P3.out.told).mono ?_
          rintro e w4 ⟨rfl, hb4⟩
          have P4 := Lib.hid (P3.out.on hb4)
          have HA4 := Lib.hid (HA3.out.below hb4)
          clear hb4
          clear q0 q1 q2 q3 q4
          obtain ⟨q0, q1, q2, q3, q4⟩ := act_cells HA4.out
          go_wp2_with fail
          refine (HDF.out _ P4.out.own).mono ?_
          rintro e w5 ⟨rfl, rfl⟩
          have k3 := HXC.out _ P4.out.own
          have HTN : Hid (T.length ≤ i + 1) := Lib.hid (by have := HT.out; omega)
          have HLK := Lib.hid (like9_any _ b g h _ _ _ P4.out.mine.arena P4.out.own)
          go_wp2_with fail
          refine HLK.out.mono ?_
          rintro e w9 ⟨rfl, hb9⟩
          have P9 := Lib.hid (P4.out.on hb9)
          clear hb9
          go_wp2
          go_roundw
          case rel => exact ⟨i + 1, _, _, _, _, by go_num, by omega, rfl, rfl, Lib.hid ⟨P9.out, HTN.out⟩⟩
          case measure => simp [intOf]; omega
        · have HWL := Lib.hid (wordOf_lt (ago := ago) HRW.out (fun j => P1.out.told.fits j))
          have HWO := Lib.hid (fun V (hO : OwnU V w.heap.size (.slice ta T.length tc) T) => word_any kind at_ ago raw y _ _ T HT100.out V hO)
          have HF := Lib.hid (fun V (hA : ArenaAt V b g h l) => get_any b g h l (wordOf ago raw T) HWL.out V hA)
          have HDF := Lib.hid (fun V (hO : OwnD V w.heap.size (.slice (some ⟨ga, 0, none⟩) n ca) l) => dat_any _ _ l (wordOf ago raw T) HWL.out V hO)
          have hgx : getX l (wordOf ago raw T) = 0 := by unfold getX; rw [if_neg hae]
          rw [hgx] at HF
          have hne0 : ((atE l (wordOf ago raw T) : Int) == 0) = false := beq_eq_false_iff_ne.2 (by omega)
          have hne1 : ((atE l (wordOf ago raw T) : Int) != 0) = true := by rw [bne_iff_ne]; omega
          have hnn : ((atE l (wordOf ago raw T) : Int) != (atE l (wordOf ago raw T) : Int)) = false := by simp
          clear hgx hae
          generalize wordOf ago raw T = wo at *
          generalize atE l wo = ae at *
          generalize atP l wo = ap at *
          go_wp2_with fail
          refine (HWO.out _ P1.out.told).mono ?_
          rintro e w2 ⟨rfl, hb2⟩
          have P2 := Lib.hid (P1.out.on hb2)
          have HA2 := Lib.hid (HA.out.below hb2)
          clear hb2
          obtain ⟨q0, q1, q2, q3, q4⟩ := act_cells HA2.out
          go_wp2_with fail
          refine (HF.out _ P2.out.mine.arena).mono ?_
          rintro e w3 ⟨rfl, hb3⟩
          have HA3 := Lib.hid (HA2.out.below hb3)
          have P3 := Lib.hid (P2.out.on hb3)
          clear hb3
          clear q0 q1 q2 q3 q4
          obtain ⟨q0, q1, q2, q3, q4⟩ := act_cells HA3.out
          go_wp2_with fail
          refine (HWO.out _ P3.out.told).mono ?_
          rintro e w4 ⟨rfl, hb4⟩
          have P4 := Lib.hid (P3.out.on hb4)
          have HA4 := Lib.hid (HA3.out.below hb4)
          clear hb4
          clear q0 q1 q2 q3 q4
          obtain ⟨q0, q1, q2, q3, q4⟩ := act_cells HA4.out
          go_wp2_with fail
          refine (HDF.out _ P4.out.own).mono ?_
          rintro e w5 ⟨rfl, rfl⟩
          have HTN : Hid (T.length ≤ i + 1) := Lib.hid (by have := HT.out; omega)
          have HLK := Lib.hid (like9_any _ b g h _ _ _ P4.out.mine.arena P4.out.own)
          go_wp2_with fail
          refine HLK.out.mono ?_
          rintro e w9 ⟨rfl, hb9⟩
          have P9 := Lib.hid (P4.out.on hb9)
          clear hb9
          go_wp2
          go_roundw
          case rel => exact ⟨i + 1, _, _, _, _, by go_num, by omega, rfl, rfl, Lib.hid ⟨P9.out, HTN.out⟩⟩
          case measure => simp [intOf]; omega
    · obtain rfl : i = len := by omega
      have HL2 := Lib.hid (HLV.out wr)
      go_wp2_with fail
      refine HL2.out.mono ?_
      rintro e w3 ⟨rfl, hb3⟩
      go_wp2
      go_ret
      exact ⟨rfl, hP.out.mine.below.trans (hb3.mono hP.out.mine.below.size)⟩
end Go.Proofs.Ytlbafmmeglafhaa
