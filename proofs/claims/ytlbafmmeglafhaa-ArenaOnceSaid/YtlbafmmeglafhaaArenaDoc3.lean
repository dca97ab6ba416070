/- The document's arena: Claim, Free, Put, Many. Condition: none but that words are words, and at most 8192 blocks. -/
import Derived.Test.YtlbafmmeglafhaaArenaDoc2
namespace Go.Proofs.Ytlbafmmeglafhaa
open Go.RowKit

theorem fits_at {l : List Bk} (hf : ∀ p ∈ l, Fits p) (j : Nat) (hj : j < l.length) : Fits (st l j, gn l j, xx l j) := by
  rw [← bk_eq hj]; exact hf _ (List.getElem_mem hj)

/-- What an act on the document's blocks leaves. -/
def DAct (w w' : World) (B : Nat) (e : Ending) (l : List Bk) (r : Value → Value) : Prop := ∃ v, e = .returned (r v) ∧ OwnD w' B v l ∧ Below w.heap.size w w'

set_option maxHeartbeats 4000000 in
theorem dclaim_any (B : Nat) (v : Value) (l : List Bk) (i : Int) (hib : -9223372036854775808 ≤ i ∧ i ≤ 9223372036854775807) (hf : ∀ p ∈ l, Fits p) (w : World) (h : OwnD w B v l) (hl : l.length ≤ 8192) (hB : B ≤ w.heap.size) :
    Calls Try.prog 17 #[v, .int .i64 i] w fun e w' => DAct w w' B e (clL l i) (fun v' => .tuple #[v', .int .u64 (clW l i : Nat), .int .i64 (clE l i : Nat)]) := by
  obtain ⟨g, c, rfl, hc, hcm, hcs, _⟩ := h.open
  have H := Lib.hid h
  have hHB := Lib.hid hB
  by_cases hi : 0 ≤ i ∧ i < l.length
  · obtain ⟨j, rfl⟩ : ∃ j : Nat, i = j := ⟨i.toNat, by omega⟩
    have hj : j < l.length := by omega
    have hin := (inB_iff j l.length).2 hi
    have hft := fits_at hf j hj
    have hk := hcs j hj
    have k1 := hk.1
    have k2 := hk.2.1
    have hj' : ¬ (l.length : Int) ≤ j := by omega
    clear hcs hk
    by_cases h0 : st l j = 0
    · have he : clE l j = 0 := by unfold clE; rw [if_pos hin, Int.toNat_natCast, if_neg (by omega), if_neg (by omega)]
      have hw : clW l j = packW j (gn l j + 1) := by unfold clW; rw [if_pos he, Int.toNat_natCast]
      have hll : clL l j = l.set j (1, gn l j + 1, xx l j) := by unfold clL; rw [if_pos he, Int.toNat_natCast]
      have hx0 : xx l j = 0 := by
        refine hft.2.2.1.2 ?_
        show st l j ≠ 1
        omega
      have hg1 : gn l j ≤ 4294967295 := hft.2.1
      rw [he, hw, hll, hx0]
      rw [h0] at k1
      have HS := Lib.hid (dset_any B _ l j 1 (gn l j + 1) 0 w h hj hl)
      have HP := Lib.hid (fun W => dpack_any j (gn l j + 1) hib (by omega) W)
      have hwr : IntKind.u64.wrap ((gn l j : Int) + 1) = ((gn l j + 1 : Nat) : Int) := by rw [IntKind.wrap_u64]; omega
      clear he hw hll hx0 h0 hft hin h hf
      generalize l.set j (1, gn l j + 1, 0) = l' at *
      generalize packW j (gn l j + 1) = pw at *
      generalize gn l j + 1 = y at *
      generalize gn l j = x at *
      generalize l.length = n at *
      clear hg1
      go_enter Try.func17, Try.ntmps17
      go_wp2_with fail
      refine HS.out.mono ?_
      rintro e w1 ⟨v1, rfl, hO, hb⟩
      have HO := Lib.hid hO
      have HBB := Lib.hid hb
      clear hO hb
      go_wp2_with fail
      refine (HP.out _).mono ?_
      rintro e w2 ⟨rfl, rfl⟩
      go_wp2
      go_ret3
      exact ⟨v1, rfl, HO.out.base hHB.out, HBB.out⟩
    · have hs : st l j = 1 ∧ clE l j = 24 ∨ st l j = 2 ∧ clE l j = 22 := by
        unfold clE
        rw [if_pos hin, Int.toNat_natCast]
        have := hft.1
        simp at this
        by_cases h1 : st l j = 1
        · exact Or.inl ⟨h1, if_pos h1⟩
        · exact Or.inr ⟨by omega, by rw [if_neg h1, if_pos (by omega)]⟩
      have hne : clE l j ≠ 0 := by omega
      have hw : clW l j = 0 := by unfold clW; rw [if_neg hne]
      have hll : clL l j = l := by unfold clL; rw [if_neg hne]
      rw [hw, hll]
      clear hw hll hne hft hin h hf
      generalize clE l j = ce at *
      rcases hs with ⟨e1, rfl⟩ | ⟨e1, rfl⟩
      all_goals
        rw [e1] at k1
        clear e1
        generalize gn l j = x at *
        generalize hn : l.length = n at *
        have HN := Lib.hid hn
        clear hn
        go_enter Try.func17, Try.ntmps17
        go_wp2
        go_ret3
        exact ⟨_, rfl, H.out, Below.refl _ _⟩
  · have he : clE l i = 20 := by unfold clE; rw [bool_not (inB_iff i l.length) hi]; rfl
    have hw : clW l i = 0 := by unfold clW; rw [if_neg (by omega)]
    have hll : clL l i = l := by unfold clL; rw [if_neg (by omega)]
    rw [he, hw, hll]
    have hd : i < 0 ∨ (¬ i < 0 ∧ (l.length : Int) ≤ i) := by omega
    clear he hw hll h hf hcs hi
    rcases hd with g1 | ⟨g1, g2⟩
    all_goals
      generalize l.length = n at *
      go_enter Try.func17, Try.ntmps17
      go_wp2
      go_ret3
      exact ⟨_, rfl, H.out, Below.refl _ _⟩

set_option maxHeartbeats 4000000 in
theorem dfree_any (B : Nat) (v : Value) (l : List Bk) (word : Nat) (hw : word < 18446744073709551616) (w : World) (h : OwnD w B v l) (hl : l.length ≤ 8192) (hB : B ≤ w.heap.size) :
    Calls Try.prog 19 #[v, .int .u64 word] w fun e w' => DAct w w' B e (freeL l word) (fun v' => .tuple #[v', .int .i64 (atE l word : Nat)]) := by
  obtain ⟨g, c, rfl, hc, hcm, hcs, _⟩ := h.open
  have H := Lib.hid h
  have HA := Lib.hid (dat_any B _ l word hw w h)
  by_cases hz : atE l word = 0
  · obtain ⟨-, h2, -, -, h5⟩ := at_zero hz
    have HX : Hid (freeL l word = l.set (openP word) (leftS (gn l (openP word)), gn l (openP word), 0)) := Lib.hid (by unfold freeL; rw [if_pos hz])
    have hk := (hcs _ h2).2.1
    have h2' : (openP word : Int) < l.length := by omega
    have HS := Lib.hid (fun W (hb : Below w.heap.size w W) => dset_any B _ l (openP word) (leftS (gn l (openP word))) (gn l (openP word)) 0 W (h.below hb) h2 hl)
    have HR := Lib.hid (fun W => rest_any (gn l (openP word)) W)
    have HZ := Lib.hid hz
    rw [hz, h5] at HA
    clear hcs hz h5 h hw
    generalize l.set (openP word) (leftS (gn l (openP word)), gn l (openP word), 0) = l' at *
    generalize leftS (gn l (openP word)) = ls at *
    generalize gn l (openP word) = x at *
    generalize openP word = p at *
    generalize l.length = n at *
    go_enter Try.func19, Try.ntmps19
    go_wp2_with fail
    refine HA.out.mono ?_
    rintro e w1 ⟨rfl, rfl⟩
    go_wp2_with fail
    refine (HR.out _).mono ?_
    rintro e w1 ⟨rfl, hb⟩
    have HB1 := Lib.hid hb
    clear hb
    go_wp2_with fail
    refine (HS.out _ HB1.out).mono ?_
    rintro e w2 ⟨v2, rfl, hO, hb⟩
    have HO := Lib.hid hO
    have HB2 := Lib.hid (HB1.out.trans (hb.mono HB1.out.size))
    clear hO hb
    go_wp2
    go_ret2
    exact ⟨v2, by rw [HZ.out]; rfl, by rw [HX.out]; exact HO.out.base (Nat.le_trans hB HB1.out.size), HB2.out⟩
  · have HX : Hid (freeL l word = l) := Lib.hid (by unfold freeL; rw [if_neg hz])
    have hne : ((atE l word : Int) != 0) = true := by rw [bne_iff_ne]; omega
    clear hcs hz h hw
    generalize atE l word = ae at *
    generalize l.length = n at *
    go_enter Try.func19, Try.ntmps19
    go_wp2_with fail
    refine HA.out.mono ?_
    rintro e w1 ⟨rfl, rfl⟩
    go_wp2
    go_ret2
    exact ⟨_, rfl, by rw [HX.out]; exact H.out, Below.refl _ _⟩

set_option maxHeartbeats 4000000 in
theorem dput_any (B : Nat) (v : Value) (l : List Bk) (word : Nat) (hw : word < 18446744073709551616) (x : Int) (w : World) (h : OwnD w B v l) (hl : l.length ≤ 8192) (hB : B ≤ w.heap.size) :
    Calls Try.prog 21 #[v, .int .u64 word, .int .i64 x] w fun e w' => DAct w w' B e (putL l word x) (fun v' => .tuple #[v', .int .i64 (atE l word : Nat)]) := by
  obtain ⟨g, c, rfl, hc, hcm, hcs, _⟩ := h.open
  have H := Lib.hid h
  have HA := Lib.hid (dat_any B _ l word hw w h)
  by_cases hz : atE l word = 0
  · obtain ⟨-, h2, -, -, h5⟩ := at_zero hz
    have HX : Hid (putL l word x = l.set (openP word) (st l (openP word), gn l (openP word), x)) := Lib.hid (by unfold putL; rw [if_pos hz])
    have hk := hcs _ h2
    have k1 := hk.1
    have k2 := hk.2.1
    have k3 := hk.2.2
    have h2' : (openP word : Int) < l.length := by omega
    have HS := Lib.hid (fun W (hb : Below w.heap.size w W) => dset_any B _ l (openP word) (st l (openP word)) (gn l (openP word)) x W (h.below hb) h2 hl)
    have HZ := Lib.hid hz
    rw [hz, h5] at HA
    clear hcs hz h5 h hw hk
    have HB1 := Lib.hid (fun o => (one_alloc w o).2)
    generalize l.set (openP word) (st l (openP word), gn l (openP word), x) = l' at *
    generalize gn l (openP word) = y at *
    generalize st l (openP word) = s at *
    generalize xx l (openP word) = z at *
    generalize openP word = p at *
    generalize l.length = n at *
    go_enter Try.func21, Try.ntmps21
    go_wp2_with fail
    refine HA.out.mono ?_
    rintro e w1 ⟨rfl, rfl⟩
    go_wp2_with fail
    refine (HS.out _ (HB1.out _)).mono ?_
    rintro e w2 ⟨v2, rfl, hO, hb⟩
    have HO := Lib.hid hO
    have HB2 := Lib.hid ((HB1.out _).trans (hb.mono (HB1.out _).size))
    clear hO hb
    go_wp2
    go_ret2
    exact ⟨v2, by rw [HZ.out]; rfl, by rw [HX.out]; exact HO.out.base (Nat.le_trans hB (HB1.out _).size), HB2.out⟩
  · have HX : Hid (putL l word x = l) := Lib.hid (by unfold putL; rw [if_neg hz])
    have hne : ((atE l word : Int) != 0) = true := by rw [bne_iff_ne]; omega
    clear hcs hz h hw
    generalize atE l word = ae at *
    generalize l.length = n at *
    go_enter Try.func21, Try.ntmps21
    go_wp2_with fail
    refine HA.out.mono ?_
    rintro e w1 ⟨rfl, rfl⟩
    go_wp2
    go_ret2
    exact ⟨_, rfl, by rw [HX.out]; exact H.out, Below.refl _ _⟩

set_option maxHeartbeats 1000000 in
theorem dmany_any (B : Nat) (v : Value) (l : List Bk) (s : Nat) (w : World) (h : OwnD w B v l) (hl : l.length ≤ 8192) :
    Calls Try.prog 50 #[v, .int .i64 s] w fun e w' => e = .returned (.int .i64 (manyB l s : Nat)) ∧ w = w' := by
  obtain ⟨g, c, rfl, hc, hcm, hcs, _⟩ := h.open
  have HC := Lib.hid hcs
  have HM := Lib.hid (many_step l s)
  have HL : Hid (∀ i, manyB (l.take i) s ≤ 8192) := Lib.hid (fun i => Nat.le_trans (many_le _ _) (by rw [List.length_take]; omega))
  have HZ : Hid (manyB (l.take 0) s = 0) := Lib.hid rfl
  have HE : Hid (manyB (l.take l.length) s = manyB l s) := Lib.hid (by rw [List.take_length])
  clear hcs h
  generalize hn : l.length = n at *
  clear hn
  go_enter Try.func50, Try.ntmps50
  go_wp2
  go_loop [5, 6] (fun ct s_ => ∃ i : Nat, s_ = .int .i64 i ∧ i ≤ n ∧ ct = .int .i64 (manyB (l.take i) s : Nat)) (fun _ s_ => n - (intOf s_).toNat)
  case atStart => exact ⟨0, rfl, Nat.zero_le _, by rw [HZ.out]; rfl⟩
  case round =>
    obtain ⟨i, rfl, hi, rfl⟩ := hrel
    by_cases hlt : i < n
    · have c1 := (HC.out i hlt).1
      have hm := HM.out i hlt
      have hle := HL.out i
      have hlt' : (i : Int) < n := by omega
      generalize st l i = x at *
      by_cases hx : x = s
      · rw [if_pos (by simpa using hx)] at hm
        have hd : ((x : Int) == (s : Int)) = true := by simp; omega
        have HM2 := Lib.hid hm
        generalize manyB (l.take i) s = m at *
        clear hx hm
        go_wp2
        go_round
        case rel => exact ⟨i + 1, by go_num, by omega, by rw [HM2.out]; go_num⟩
        case measure => simp [intOf]; omega
      · rw [if_neg (by simpa using hx)] at hm
        have hd : ((x : Int) == (s : Int)) = false := by simp; omega
        have HM2 := Lib.hid hm
        generalize manyB (l.take i) s = m at *
        clear hx hm
        go_wp2
        go_round
        case rel => exact ⟨i + 1, by go_num, by omega, by rw [HM2.out]; go_num⟩
        case measure => simp [intOf]; omega
    · obtain rfl : i = n := by omega
      rw [HE.out]
      go_wp2
      go_ret
      exact ⟨rfl, rfl⟩
end Go.Proofs.Ytlbafmmeglafhaa
