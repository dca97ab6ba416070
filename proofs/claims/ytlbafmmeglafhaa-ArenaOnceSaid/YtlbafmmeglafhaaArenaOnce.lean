/- The law ArenaOnce, walked: no two claims tell one reference; what is got by one is what was put by it; a block that is withdrawn stays so. Condition: the list's bytes are there. -/
import Derived.Test.YtlbafmmeglafhaaArenaPlay
import Derived.Test.YtlbafmmeglafhaaArenaRead
namespace Go.Proofs.Ytlbafmmeglafhaa
open Go.RowKit

/-- One claim, and what is done by its reference: from a row in which the block is free. -/
structure OnceStep (l : List Bk) (j k : Nat) (u : Nat) (l1 l2 l3 : List Bk) : Prop where
  clE : clE l j = 0
  clW : clW l j = u
  clL : clL l j = l1
  put : atE l1 u = 0 ∧ putL l1 u k = l2
  get : atE l2 u = 0 ∧ getX l2 u = k
  free : atE l2 u = 0 ∧ freeL l2 u = l3
  again : atE l3 u = 24 ∧ freeL l3 u = l3
  lt : u < 18446744073709551616

theorem at_of {l : List Bk} {u j g : Nat} (h1 : openOk u = true) (h2 : openP u = j) (h3 : openG u = g) (hj : j < l.length) (hg : gn l j = g) : (st l j = 1 → atE l u = 0) ∧ (st l j ≠ 1 → atE l u = 24) := by
  unfold atE
  rw [h1, h2, h3, hg]
  constructor
  · intro h; rw [if_pos ⟨rfl, hj⟩, if_pos rfl, if_pos h]
  · intro h; rw [if_pos ⟨rfl, hj⟩, if_pos rfl, if_neg h]

theorem leftS_ne (g : Nat) : leftS g ≠ 1 := by unfold leftS; split <;> decide

theorem once_step (l : List Bk) (j k : Nat) (hj : j < l.length) (hl : l.length ≤ 8192) (hf : ∀ p ∈ l, Fits p) (hs : st l j = 0) :
    OnceStep l j k (packW j (gn l j + 1)) (l.set j (1, gn l j + 1, xx l j)) (l.set j (1, gn l j + 1, (k : Int))) (l.set j (leftS (gn l j + 1), gn l j + 1, 0)) := by
  have hft := fits_at hf j hj
  have hg : gn l j + 1 ≤ 4294967295 := by
    have h1 := hft.2.1
    have h2 := hft.2.2.1.1 hs
    simp at h1 h2
    omega
  have hin := (inB_iff j l.length).2 ⟨by omega, by omega⟩
  have hE : Go.Proofs.Ytlbafmmeglafhaa.clE l j = 0 := by unfold Go.Proofs.Ytlbafmmeglafhaa.clE; rw [if_pos hin, Int.toNat_natCast, if_neg (by omega), if_neg (by omega)]
  have hne : packW j (gn l j + 1) ≠ 0 := by unfold packW; rw [if_pos (by omega)]; omega
  obtain ⟨o1, o2, o3⟩ := open_pack hne
  have o2' : openP (packW j (gn l j + 1)) = j := by omega
  have hlt := packW_lt (j : Int) (gn l j + 1)
  obtain ⟨g, hgg⟩ : ∃ g, gn l j + 1 = g := ⟨_, rfl⟩
  rw [hgg] at hg hne o1 o2 o3 o2' hlt ⊢
  obtain ⟨u, hu⟩ : ∃ u, packW j g = u := ⟨_, rfl⟩
  rw [hu] at hne o1 o2 o3 o2' hlt ⊢
  have a1 := at_of (l := l.set j (1, g, xx l j)) o1 o2' o3 (by rw [List.length_set]; exact hj) (set_get hj _).2.1
  have a2 := at_of (l := l.set j (1, g, (k : Int))) o1 o2' o3 (by rw [List.length_set]; exact hj) (set_get hj _).2.1
  have a3 := at_of (l := l.set j (leftS g, g, 0)) o1 o2' o3 (by rw [List.length_set]; exact hj) (set_get hj _).2.1
  have e1 := a1.1 (set_get hj _).1
  have e2 := a2.1 (set_get hj _).1
  have e3 := a3.2 (by rw [(set_get hj _).1]; exact leftS_ne g)
  refine ⟨hE, ?_, ?_, ⟨e1, ?_⟩, ⟨e2, ?_⟩, ⟨e2, ?_⟩, ⟨e3, ?_⟩, hlt⟩
  · unfold Go.Proofs.Ytlbafmmeglafhaa.clW; rw [if_pos hE, Int.toNat_natCast, hgg]; exact hu
  · unfold Go.Proofs.Ytlbafmmeglafhaa.clL; rw [if_pos hE, Int.toNat_natCast]
    rw [hgg]
  · unfold putL; rw [if_pos e1, o2', (set_get hj _).1, (set_get hj _).2.1, List.set_set]
  · unfold getX; rw [if_pos e2, o2', (set_get hj _).2.2]
  · unfold freeL; rw [if_pos e2, o2', (set_get hj _).2.1, List.set_set]
  · unfold freeL; rw [if_neg (by omega)]

/-- Words that claims have told so far: of no generation that is still to come. -/
def Fresh (l : List Bk) (M : List Nat) : Prop := ∀ u ∈ M, ∃ j g : Nat, j < l.length ∧ u = packW j g ∧ 1 ≤ g ∧ g ≤ gn l j
theorem fresh_new {l : List Bk} {M : List Nat} (h : Fresh l M) (hl : l.length ≤ 8192) (j : Nat) (hj : j < l.length) (hg : gn l j + 1 ≤ 4294967295) (hf : ∀ p ∈ l, Fits p) (i : Nat) (hi : i < M.length) : tn M i ≠ packW j (gn l j + 1) := by
  have e : tn M i = M[i] := by unfold tn; rw [List.getD_eq_getElem?_getD, List.getElem?_eq_getElem hi]; rfl
  obtain ⟨j', g', h1, h2, h3, h4⟩ := h M[i] (List.getElem_mem hi)
  have h5 : gn l j' ≤ 4294967295 := (fits_at hf j' h1).2.1
  rw [e, h2]
  unfold packW
  rw [if_pos (by omega), if_pos (by omega)]
  intro hh
  have : j' = j := by omega
  subst this
  omega
theorem fresh_more {l : List Bk} {M : List Nat} (h : Fresh l M) (j s : Nat) (z : Int) (hj : j < l.length) : Fresh (l.set j (s, gn l j + 1, z)) (M ++ [packW j (gn l j + 1)]) := by
  intro u hu
  rcases List.mem_append.1 hu with hu | hu
  · obtain ⟨j', g', h1, h2, h3, h4⟩ := h u hu
    refine ⟨j', g', by rw [List.length_set]; exact h1, h2, h3, ?_⟩
    by_cases e : j' = j
    · subst e; rw [(set_get hj _).2.1]; show g' ≤ gn l j' + 1; omega
    · rw [(set_get_ne e _).2.1]; exact h4
  · simp at hu
    exact ⟨j, gn l j + 1, by rw [List.length_set]; exact hj, hu, by omega, by rw [(set_get hj _).2.1]; exact Nat.le_refl _⟩
def Idle (l : List Bk) : Prop := ∀ j, j < l.length → st l j ≠ 1
theorem idle_more {l : List Bk} (h : Idle l) (j v : Nat) (hj : j < l.length) : Idle (l.set j (leftS v, v, 0)) := by
  intro i hi
  rw [List.length_set] at hi
  by_cases e : i = j
  · subst e; rw [(set_get hj _).1]; exact leftS_ne v
  · rw [(set_get_ne e _).1]; exact h i hi
theorem idle_none {l : List Bk} (h : Idle l) : manyB l 1 = 0 := by
  unfold manyB
  rw [List.countP_eq_zero]
  intro p hp
  obtain ⟨i, hi, rfl⟩ := List.getElem_of_mem hp
  have := h i hi
  rw [bk_eq hi]
  simpa using this

/-- Where some rounds are done. -/
structure OnceAt (w0 wr : World) (b g h : Nat) (tv : Value) (l : List Bk) (M : List Nat) (m : Nat) : Prop where
  mine : MineA w0 wr b g h l
  told : OwnU wr w0.heap.size tv M
  len : l.length = m
  fresh : Fresh l M
  idle : Idle l

section
variable {w0 wr w2 : World} {b g h m : Nat} {tv : Value} {l l' : List Bk} {M : List Nat}
theorem told_kept (H : OwnU wr w0.heap.size tv M) (hA : ArenaAt wr b g h l) (hw : AWrote wr w2 b g h l') : OwnU w2 w0.heap.size tv M := H.keep hw.keep hA.row hA.held (by decide) (by decide)
/-- One word more was met. -/
theorem met_more {tv' : Value} {u : Nat} (hm : MineA w0 wr b g h l) (ht : OwnU wr w0.heap.size tv M) (hu : u < 18446744073709551616) (ho : w2.ownsRow w0.heap.size 22 1 tv' (M.length + 1) (ucells M ++ [.int .u64 u])) (hg : wr.grownBy w2 tv.ownBlock) : MineA w0 w2 b g h l ∧ OwnU w2 w0.heap.size tv' (M ++ [u]) :=
  ⟨hm.grown hg ht.row (by decide) (by decide) (by decide), OwnU.more ht.fit hu ho⟩
end

set_option maxHeartbeats 32000000 in
set_option maxRecDepth 100000 in
theorem aonce_in (n gen : Nat) (hn : n < 256) (hgen : gen ≤ 4294967295) (ao : Option Addr) (len cap : Nat) (X : Nat → Nat) (w : World) (hx : Bytes8 w w.heap.size ao len X) (hxk : ∀ i, i < len → X i < 256) (hlen : len ≤ 80) :
    Calls Try.prog 4 #[.int .u8 n, .int .u64 gen, .slice ao len cap] w fun e w' => e = .returned (.bool true) ∧ Below w.heap.size w w' := by
  have HX := Lib.hid hx
  have HXK := Lib.hid hxk
  have HLV := Lib.hid (fun W => lives9_any W)
  obtain ⟨m, hm⟩ : ∃ m, m = 1 + n % 8 := ⟨_, rfl⟩
  have hm8 : 1 ≤ m ∧ m ≤ 8 := by omega
  have HN := Lib.hid (new_in m gen (by omega) hgen w)
  have hr1 : (n : Int).tmod 8 = ((n % 8 : Nat) : Int) := by rw [Int.tmod_eq_emod_of_nonneg (by omega)]; omega
  have hr2 : (n : Int) % 8 = ((n % 8 : Nat) : Int) := by omega
  have hr3 : (1 : Int) + ((n % 8 : Nat) : Int) = (m : Int) := by omega
  have hr4 : n % 8 < 8 := by omega
  have hq1 : ¬ (80 : Int) < len := by omega
  have HTM := Lib.hid (fun p : Nat => (show (p : Int).tmod (m : Int) = ((p % m : Nat) : Int) ∧ (p : Int) % (m : Int) = ((p % m : Nat) : Int) from ⟨by rw [Int.tmod_eq_emod_of_nonneg (by omega)]; omega, by omega⟩))
  have HLL : Hid ((List.replicate m ((leftS gen, gen, 0) : Bk)).length = m) := Lib.hid (List.length_replicate ..)
  have HIDL : Hid (Idle (List.replicate m ((leftS gen, gen, 0) : Bk))) := Lib.hid (by
    intro j hj
    unfold st
    rw [List.getD_eq_getElem?_getD, List.getElem?_eq_getElem hj]
    simp [leftS_ne])
  obtain ⟨i0, hi, hz0, hz1, hz2⟩ := info_parts infoU64
  have HI := Lib.hid (And.intro hi (And.intro hz0 (And.intro hz1 hz2)))
  clear hx hxk hi hz0 hz1 hz2 hgen hm
  generalize List.replicate m ((leftS gen, gen, 0) : Bk) = L0 at *
  generalize n % 8 = r at *
  go_enter Try.func4, Try.ntmps4
  go_wp2_with fail
  refine HN.out.mono ?_
  rintro e w1 ⟨b, g, h, rfl, ha, hlow, hb1⟩
  have HP0 : Hid (OnceAt w w1 b g h (.slice none 0 0) L0 [] m) := Lib.hid ⟨⟨ha, hlow, hb1⟩, OwnU.nil _ _, HLL.out, fun u hu => by simp at hu, HIDL.out⟩
  clear ha hlow hb1 hr1 hr2 hr3 hr4
  go_wp2
  go_loopw [9, 48] (fun tv s wr => ∃ (i : Nat) (v : Value) (l : List Bk) (M : List Nat), s = .int .i64 i ∧ i ≤ len ∧ tv = v ∧ Hid (OnceAt w wr b g h v l M m ∧ M.length ≤ i)) (fun _ s _ => len - (intOf s).toNat)
  case atStart => exact ⟨0, _, L0, [], rfl, Nat.zero_le _, rfl, Lib.hid ⟨HP0.out, Nat.le_refl _⟩⟩
  case round =>
    clear HP0 HN HLL HIDL
    obtain ⟨i, tv, l, M, rfl, hi, rfl, hPT⟩ := hrel
    have P := Lib.hid hPT.out.1
    have HML := Lib.hid hPT.out.2
    clear hPT
    by_cases hlt : i < len
    · obtain ⟨b0, off, rfl, hbN, hc⟩ := (HX.out.keep P.out.mine.below) i hlt
      have hpk := HXK.out i hlt
      have htm := HTM.out (X i)
      generalize X i = p at *
      have hjm : p % m < m := Nat.mod_lt _ (by omega)
      have ht1 := htm.1
      have ht2 := htm.2
      clear htm
      generalize p % m = j at *
      have HJ : Hid (j < l.length) := Lib.hid (by rw [P.out.len]; exact hjm)
      have hjm' : (j : Int) < m := by omega
      have hlt' : (i : Int) < len := by omega
      have HS := Lib.hid (state_in b g h l j wr P.out.mine.arena HJ.out)
      have HC := Lib.hid (fun V (hA : ArenaAt V b g h l) => claim_any b g h l j V hA)
      obtain ⟨ta, tc, rfl, htc, htcm, hcs⟩ := P.out.told.open
      clear hcs
      have hf := P.out.mine.arena.fits j HJ.out
      have hidle := P.out.idle j HJ.out
      have hin := (inB_iff j l.length).2 ⟨by omega, by have := HJ.out; omega⟩
      by_cases h2 : st l j = 2
      · have hE : clE l j = 22 := by unfold clE; rw [if_pos hin, Int.toNat_natCast, if_neg (by omega), if_pos h2]
        have hL : clL l j = l := by unfold clL; rw [if_neg (by omega)]
        rw [hE, hL] at HC
        rw [h2] at HS
        clear hE hL hf hidle hin h2
        generalize clW l j = cw at *
        generalize gn l j = gg at *
        go_wp2_with fail
        refine HS.out.mono ?_
        rintro e w2 ⟨rfl, hb2⟩
        have M2 := Lib.hid (P.out.mine.on hb2)
        have T2 := Lib.hid (P.out.told.below hb2)
        clear hb2
        go_wp2_with fail
        refine (HC.out _ M2.out.arena).mono ?_
        rintro e w3 ⟨rfl, hw3⟩
        have P3 : Hid (OnceAt w w3 b g h (.slice ta M.length tc) l M m) := Lib.hid ⟨M2.out.wrote hw3, told_kept T2.out M2.out.arena hw3, P.out.len, P.out.fresh, P.out.idle⟩
        clear hw3
        go_wp2
        go_roundw
        case rel => exact ⟨i + 1, _, l, M, by go_num, by omega, rfl, Lib.hid ⟨P3.out, by have := HML.out; omega⟩⟩
        case measure => simp [intOf]; omega
      · have h0 : st l j = 0 := by have := hf.1; simp at this; omega
        have hg : gn l j + 1 ≤ 4294967295 := by
          have h3 := hf.2.1
          have h4 := hf.2.2.1.1 h0
          simp at h3 h4
          omega
        have hst := once_step l j i HJ.out P.out.mine.arena.len.2 P.out.mine.arena.fit h0
        have hfr := fresh_new P.out.fresh P.out.mine.arena.len.2 j HJ.out hg P.out.mine.arena.fit
        have HFM := Lib.hid (fresh_more P.out.fresh j (leftS (gn l j + 1)) 0 HJ.out)
        have HIM := Lib.hid (idle_more P.out.idle j (gn l j + 1) HJ.out)
        have HLN : Hid ((l.set j (leftS (gn l j + 1), gn l j + 1, 0)).length = m) := Lib.hid (by rw [List.length_set]; exact P.out.len)
        rw [hst.clE, hst.clW, hst.clL] at HC
        have HPU := Lib.hid (fun V hA => put_any b g h (l.set j (1, gn l j + 1, xx l j)) (packW j (gn l j + 1)) hst.lt i (by omega) V hA)
        rw [hst.put.1, hst.put.2] at HPU
        have HGE := Lib.hid (fun V hA => get_any b g h (l.set j (1, gn l j + 1, (i : Int))) (packW j (gn l j + 1)) hst.lt V hA)
        rw [hst.get.1, hst.get.2] at HGE
        have HFR := Lib.hid (fun V hA => free_any b g h (l.set j (1, gn l j + 1, (i : Int))) (packW j (gn l j + 1)) hst.lt V hA)
        rw [hst.free.1, hst.free.2] at HFR
        have HFR2 := Lib.hid (fun V hA => free_any b g h (l.set j (leftS (gn l j + 1), gn l j + 1, 0)) (packW j (gn l j + 1)) hst.lt V hA)
        rw [hst.again.1, hst.again.2] at HFR2
        have HLT := Lib.hid hst.lt
        have HNE := Lib.hid hfr
        rw [h0] at HS
        clear hst hfr hf hidle hin h2 h0 hg
        generalize l.set j (1, gn l j + 1, xx l j) = l1 at *
        generalize l.set j (1, gn l j + 1, (i : Int)) = l2 at *
        generalize l.set j (leftS (gn l j + 1), gn l j + 1, 0) = l3 at *
        generalize packW j (gn l j + 1) = u at *
        generalize gn l j = gg at *
        go_wp2_with fail
        refine HS.out.mono ?_
        rintro e w2 ⟨rfl, hb2⟩
        have M2 := Lib.hid (P.out.mine.on hb2)
        have T2 := Lib.hid (P.out.told.below hb2)
        clear hb2
        go_wp2_with fail
        refine (HC.out _ M2.out.arena).mono ?_
        rintro e w3 ⟨rfl, hw3⟩
        have M3 := Lib.hid (M2.out.wrote hw3)
        have T3 := Lib.hid (told_kept T2.out M2.out.arena hw3)
        clear hw3
        obtain ⟨ta', tc', hteq, _, _, hcs⟩ := T3.out.open
        have HCS := Lib.hid hcs
        injection hteq with q1 q2 q3
        subst q1
        clear hcs q2 q3
        have HMN : Hid (M.length ≤ 80) := Lib.hid (by have := HML.out; omega)
        go_wp2
        go_loop [78] (fun s => ∃ k : Nat, s = .int .i64 k ∧ k ≤ M.length) (fun s => M.length - (intOf s).toNat)
        case atStart => exact ⟨0, rfl, Nat.zero_le _⟩
        case round =>
          obtain ⟨k, rfl, hk⟩ := hrel
          by_cases hkl : k < M.length
          · obtain ⟨gt, rfl, hck⟩ := HCS.out k hkl
            have hne : ((tn M k : Int) == (u : Int)) = false := beq_eq_false_iff_ne.2 (by have := HNE.out k hkl; omega)
            have hkl' : (k : Int) < M.length := by omega
            generalize tn M k = y at *
            generalize M.length = ml at *
            go_wp2
            go_round
            case rel => exact ⟨k + 1, by go_num, by omega⟩
            case measure => simp [intOf]; omega
          · obtain rfl : k = M.length := by omega
            go_wp2_with ((with_reducible show wpList _ _ _ (⟨some 89, _, _, _, _, _⟩ :: _) _ _); refine wpList_append_own _ rfl (.tmp 86) (.tmp 88) 36 rfl w.heap.size 22 i0 (.int .u64 0) 1 8 Try.underlying36 HI.out.1 HI.out.2.1 HI.out.2.2.1 HI.out.2.2.2 rfl (by decide) _ M.length (ucells M) rfl (own_keep T3.out.own (one_alloc w3 _).2) ⟨w3.heap.size, 0, none⟩ 1 1 [.int .u64 (u : Nat)] rfl rfl (one_news w3 (.int .u64 (u : Nat)) _) (by intro z hz; simp at hz; subst hz; rfl) (by have := HMN.out; unfold maxLen; omega) (by have := HMN.out; omega) (Nat.le_trans M3.out.below.size (by simp)) ?_; intro v9 w9 hown9 hgrow9 _; have MT4 := Lib.hid (met_more (M3.out.on (one_alloc w3 _).2) (T3.out.below (one_alloc w3 _).2) HLT.out hown9 hgrow9); clear hown9 hgrow9; obtain ⟨ta4, tc4, rfl, htc4, htcm4, _⟩ := MT4.out.2.open)
            refine (HPU.out _ MT4.out.1.arena).mono ?_
            rintro e w5 ⟨rfl, hw5⟩
            have M5 := Lib.hid (MT4.out.1.wrote hw5)
            have T5 := Lib.hid (told_kept MT4.out.2 MT4.out.1.arena hw5)
            clear hw5
            go_wp2_with fail
            refine (HGE.out _ M5.out.arena).mono ?_
            rintro e w6 ⟨rfl, hb6⟩
            have M6 := Lib.hid (M5.out.on hb6)
            have T6 := Lib.hid (T5.out.below hb6)
            clear hb6
            have hii : ((i : Int) != (i : Int)) = false := by simp
            go_wp2_with fail
            refine (HFR.out _ M6.out.arena).mono ?_
            rintro e w7 ⟨rfl, hw7⟩
            have M7 := Lib.hid (M6.out.wrote hw7)
            have T7 := Lib.hid (told_kept T6.out M6.out.arena hw7)
            clear hw7
            go_wp2_with fail
            refine (HFR2.out _ M7.out.arena).mono ?_
            rintro e w8 ⟨rfl, hw8⟩
            have P8 : Hid (OnceAt w w8 b g h (.slice ta4 (M ++ [u]).length tc4) l3 (M ++ [u]) m) := Lib.hid ⟨M7.out.wrote hw8, told_kept T7.out M7.out.arena hw8, HLN.out, HFM.out, HIM.out⟩
            clear hw8
            go_wp2
            go_roundw
            case rel => exact ⟨i + 1, _, l3, M ++ [u], by go_num, by omega, rfl, Lib.hid ⟨by have h9 := P8.out; rw [show (M ++ [u]).length = M.length + 1 by simp] at h9; exact h9, by have := HML.out; rw [List.length_append]; simp; omega⟩⟩
            case measure => simp [intOf]; omega
    · obtain rfl : i = len := by omega
      have M1 := Lib.hid (P.out.mine.on (one_alloc wr (.cells #[.slice none 0 0, .slice none 0 0] 58)).2)
      have HU := Lib.hid (used_any b g h l _ M1.out.arena)
      rw [idle_none P.out.idle] at HU
      have HBK := Lib.hid (Blk.new wr 58 #[.slice none 0 0, .slice none 0 0])
      have HFZ := Lib.hid (fun V (hB : Blk V wr.heap.size 58 #[.slice none 0 0, .slice none 0 0]) => free_zero (.pointer (some ⟨wr.heap.size, 0, none⟩)) 1 V (aLen_plain wr.heap.size V ((hB.cell 0).trans rfl)))
      have HLZ := Lib.hid (fun V (hB : Blk V wr.heap.size 58 #[.slice none 0 0, .slice none 0 0]) => aLen_plain wr.heap.size V ((hB.cell 0).trans rfl))
      go_wp2_with fail
      refine HU.out.mono ?_
      rintro e w2 ⟨rfl, hb2⟩
      have HB2 := Lib.hid (M1.out.below.trans (hb2.mono M1.out.below.size))
      have HK2 := Lib.hid (HBK.out.below hb2)
      clear hb2
      go_wp2_with fail
      refine (HFZ.out _ HK2.out).mono ?_
      rintro e w3 ⟨rfl, rfl⟩
      go_wp2_with fail
      refine (HLZ.out _ HK2.out).mono ?_
      rintro e w3 ⟨rfl, rfl⟩
      go_wp2_with fail
      refine (HLV.out _).mono ?_
      rintro e w3 ⟨rfl, hb3⟩
      have HB3 := Lib.hid (HB2.out.trans (hb3.mono HB2.out.size))
      clear hb3
      go_wp2
      go_ret
      exact ⟨rfl, HB3.out⟩
end Go.Proofs.Ytlbafmmeglafhaa
