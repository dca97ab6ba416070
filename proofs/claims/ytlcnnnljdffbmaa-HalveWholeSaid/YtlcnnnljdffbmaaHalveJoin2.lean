/- halve.Even: neighbours that have as many entries, or nearly so, or none. Condition: sizes that fit. bowerref13.Neighbours: are two nodes neighbours? Condition: sizes that fit. bowerref13.Both: two neighbours as one, however many entries they have. Condition: rows that are there. Plain facts for the law HalveJoins: two neighbours as one are sound just if there is room; their fan. No walk. bowerref13.Merge and Even: neighbours as one, two that have as many entries, or none. Condition: sizes that fit. -/
import Derived.Test.YtlcnnnljdffbmaaHalveMerge2
import Derived.BigQuiet
import Derived.Deep.Upon
import Derived.Test.YtlcnnnljdffbmaaHalveRefs2
namespace Go.Proofs.Ytlcnnnljdffbmaa
open Go.RowKit

def Nod.EvenP (n m : Nod) : Prop := n.NbP m ∧ 2 ≤ n.ks.length + m.ks.length
theorem lss_back {a b c : List UInt8} (h : lss a b = true) (k : lss c b = false) : lss a c = true := by
  cases h2 : lss b c with
  | true => exact lss_trans _ _ _ h h2
  | false => rw [← lss_total _ _ h2 k]; exact h
/-- The keys of neighbours rise. -/
theorem Nod.NbP.rise {n m : Nod} (h : n.NbP m) : Rises (n.ks ++ m.ks) := by
  refine rises_up (k := n.ks.length + m.ks.length) (fun i hi => ?_) (by rw [List.length_append]; omega)
  have ea : ∀ j, j < n.ks.length → nth (n.ks ++ m.ks) j = nth n.ks j := fun j hj => by
    unfold nth; rw [List.getD_eq_getElem?_getD, List.getElem?_append_left hj, List.getD_eq_getElem?_getD]
  have eb : ∀ j, n.ks.length ≤ j → nth (n.ks ++ m.ks) j = nth m.ks (j - n.ks.length) := fun j hj => by
    unfold nth; rw [List.getD_eq_getElem?_getD, List.getElem?_append_right hj, List.getD_eq_getElem?_getD]
  by_cases h1 : i + 1 < n.ks.length
  · rw [ea i (by omega), ea (i + 1) h1]; exact rises_nth h.a.keys.rise (by omega) h1
  · by_cases h2 : n.ks.length ≤ i
    · rw [eb i h2, eb (i + 1) (by omega), show i + 1 - n.ks.length = i - n.ks.length + 1 by omega]
      exact rises_nth h.b.keys.rise (by omega) (by omega)
    · rw [ea i (by omega), eb (i + 1) (by omega), show i + 1 - n.ks.length = 0 by omega]
      have h3 := h.a.keys.inn i (by omega)
      have h4 := h.b.keys.inn 0 (by omega)
      rw [h.last, h.border] at h3
      have h5 : lss (nth n.ks i).data.toList m.lo.data.toList = true := by
        unfold insideB at h3
        rw [Bool.and_eq_true, Bool.false_or] at h3
        exact h3.2
      have h6 : lss (nth m.ks 0).data.toList m.lo.data.toList = false := by
        unfold insideB at h4
        rw [Bool.and_eq_true] at h4
        simpa using h4.1
      exact lss_back h5 h6
theorem boxes4 (w : World) (cs ds es fs : Array Value) : ∃ w1, w1 = (((w.alloc (.cells cs 26)).alloc (.cells ds 26)).alloc (.cells es 26)).alloc (.cells fs 26) ∧ NB w1 w.heap.size cs ∧ NB w1 (w.heap.size + 1) ds ∧ NB w1 (w.heap.size + 2) es ∧ NB w1 (w.heap.size + 3) fs ∧ Below w.heap.size w w1 ∧ w1.heap.size = w.heap.size + 4 := by
  obtain ⟨w0, h0, n1, n2, n3, hB, hs⟩ := boxes3 w cs ds es
  have h3 := boxed_below w0 (.cells fs 26)
  have n4 := NB.new w0 fs
  rw [hs] at n4
  exact ⟨w0.alloc (.cells fs 26), by rw [h0], n1.below h3, n2.below h3, n3.below h3, n4, hB.trans (h3.mono (by omega)), by rw [World.size_alloc, hs]⟩

set_option maxHeartbeats 8000000 in
set_option maxRecDepth 100000 in
theorem even_of (lv nx : Int) (lo hi : ByteArray) (la : Bool) (ak av ac : Option Addr) (ck cv cc : Nat) (lv2 nx2 : Int) (lo2 hi2 : ByteArray) (la2 : Bool) (ak2 av2 ac2 : Option Addr) (ck2 cv2 cc2 : Nat) (ks : List ByteArray) (vs : List Nat) (cs : List Int) (ks2 : List ByteArray) (vs2 : List Nat) (cs2 : List Int) (b : Bool) (w : World) (hN : NdAt w ak av ac ks.length ck vs.length cv cs.length cc ks vs cs) (hM : NdAt w ak2 av2 ac2 ks2.length ck2 vs2.length cv2 cs2.length cc2 ks2 vs2 cs2) (hf : Fit lo hi ks ks.length vs.length cs.length) (hg : Fit lo2 hi2 ks2 ks2.length vs2.length cs2.length)
    (hs : ks.length + ks2.length ≤ 200000 ∧ vs.length + vs2.length ≤ 200000 ∧ cs.length + cs2.length ≤ 200000) (hb : b = true ↔ (⟨lv, nx, lo, hi, la, ks, vs, cs⟩ : Nod).EvenP (⟨lv2, nx2, lo2, hi2, la2, ks2, vs2, cs2⟩ : Nod)) :
    Calls Try.prog 13 #[.agg #[.int .i64 lv, .string lo, .string hi, .bool la, .int .i64 nx, .slice ak ks.length ck, .slice av vs.length cv, .slice ac cs.length cc], .agg #[.int .i64 lv2, .string lo2, .string hi2, .bool la2, .int .i64 nx2, .slice ak2 ks2.length ck2, .slice av2 vs2.length cv2, .slice ac2 cs2.length cc2]] w fun e w' => GaveTwo w w' e b (Nod.or b (Nod.left ((⟨lv, nx, lo, hi, la, ks, vs, cs⟩ : Nod).both (⟨lv2, nx2, lo2, hi2, la2, ks2, vs2, cs2⟩ : Nod)) nx)) (Nod.or b (Nod.right ((⟨lv, nx, lo, hi, la, ks, vs, cs⟩ : Nod).both (⟨lv2, nx2, lo2, hi2, la2, ks2, vs2, cs2⟩ : Nod)))) := by
  obtain ⟨w1, hw1, n1, n2, n3, n4, hB, hsz⟩ := boxes4 w #[.int .i64 lv, .string lo, .string hi, .bool la, .int .i64 nx, .slice ak ks.length ck, .slice av vs.length cv, .slice ac cs.length cc] #[.int .i64 lv2, .string lo2, .string hi2, .bool la2, .int .i64 nx2, .slice ak2 ks2.length ck2, .slice av2 vs2.length cv2, .slice ac2 cs2.length cc2] #[.int .i64 0, .string ⟨#[]⟩, .string ⟨#[]⟩, .bool false, .int .i64 0, .slice none 0 0, .slice none 0 0, .slice none 0 0] #[.int .i64 0, .string ⟨#[]⟩, .string ⟨#[]⟩, .bool false, .int .i64 0, .slice none 0 0, .slice none 0 0, .slice none 0 0]
  have HW1 := Lib.hid hw1
  have HN1 := Lib.hid n1
  have HN2 := Lib.hid n2
  have HN3 := Lib.hid n3
  have HN4 := Lib.hid n4
  have HB1 := Lib.hid hB
  have HSZ := Lib.hid hsz
  obtain ⟨l, hl⟩ := bool_or ((⟨lv, nx, lo, hi, la, ks, vs, cs⟩ : Nod).NbP (⟨lv2, nx2, lo2, hi2, la2, ks2, vs2, cs2⟩ : Nod))
  have HNB := Lib.hid (nb_of lv nx lo hi la ak av ac ck cv cc lv2 nx2 lo2 hi2 la2 ak2 av2 ac2 ck2 cv2 cc2 ks vs cs ks2 vs2 cs2 l w1 (hN.keep hB) (hM.keep hB) hf hg hl)
  have HJN := Lib.hid (fun W (h : Below w.heap.size w W) => joined_any lv nx lo hi la ak av ac ck cv cc lv2 nx2 lo2 hi2 la2 ak2 av2 ac2 ck2 cv2 cc2 ks vs cs ks2 vs2 cs2 W (hN.keep h) (hM.keep h) (by omega))
  have HLL := Lib.hid hl
  have HBB := Lib.hid hb
  obtain ⟨X, hX⟩ : ∃ X, X = (⟨lv, nx, lo, hi, la, ks, vs, cs⟩ : Nod).both (⟨lv2, nx2, lo2, hi2, la2, ks2, vs2, cs2⟩ : Nod) := ⟨_, rfl⟩
  have HXS : Hid ((∀ x ∈ X.ks, x.size ≤ 140737488355328) ∧ X.ks.length = ks.length + ks2.length ∧ X.vs.length ≤ 200000 ∧ X.cs.length ≤ 200000) := Lib.hid (by
    subst hX
    refine ⟨fun x hx => ?_, ?_, ?_, ?_⟩
    · rcases List.mem_append.1 (show x ∈ ks ++ ks2 from hx) with h | h
      · exact hf.ks x h
      · exact hg.ks x h
    · exact List.length_append
    · show (vs ++ vs2).length ≤ _
      rw [List.length_append]; omega
    · show (cs ++ cs2).length ≤ _
      rw [List.length_append]; omega)
  have HKL : Hid (ks.length + ks2.length ≤ 200000) := Lib.hid hs.1
  have HXR : Hid ((⟨lv, nx, lo, hi, la, ks, vs, cs⟩ : Nod).NbP (⟨lv2, nx2, lo2, hi2, la2, ks2, vs2, cs2⟩ : Nod) → Rises X.ks) := Lib.hid (fun h => by subst hX; exact h.rise)
  rw [← hX] at HJN ⊢
  obtain ⟨q0, q1, q2, q3, q4, q5, q6, q7⟩ := n1.cells
  obtain ⟨p0, p1, p2, p3, p4, p5, p6, p7⟩ := n2.cells
  clear hN hM hf hg hs hb hl n1 n2 n3 n4 hB hw1 hX hsz
  go_enter Try.func13, Try.ntmps13
  go_wp2_with fail
  rw [← HW1.out]
  refine HNB.out.mono ?_
  rintro e w2 ⟨rfl, hb2⟩
  have HA := Lib.hid (HN1.out.below hb2)
  have HBX := Lib.hid (HN2.out.below hb2)
  have HL2 := Lib.hid (HN3.out.below hb2)
  have HR2 := Lib.hid (HN4.out.below hb2)
  have HB2 := Lib.hid (HB1.out.trans (hb2.mono HB1.out.size))
  have HZ2 : Hid (w.heap.size + 4 ≤ w2.heap.size) := Lib.hid (by have := hb2.size; have := HSZ.out; omega)
  clear hb2 q0 q1 q2 q3 q4 q5 q6 q7 p0 p1 p2 p3 p4 p5 p6 p7 HNB HW1 HN1 HN2 HN3 HN4
  cases l with
  | false =>
    have HF : Hid (b = false) := Lib.hid (bool_no HBB.out (fun h => by have := HLL.out.2 h.1; cases this))
    obtain ⟨t0, t1, t2, t3, t4, t5, t6, t7⟩ := HL2.out.cells
    obtain ⟨u0, u1, u2, u3, u4, u5, u6, u7⟩ := HR2.out.cells
    have f0 := HL2.out.frozen 0
    have f1 := HL2.out.frozen 1
    have f2 := HL2.out.frozen 2
    have f3 := HL2.out.frozen 3
    have f4 := HL2.out.frozen 4
    have f5 := HL2.out.frozen 5
    have f6 := HL2.out.frozen 6
    have f7 := HL2.out.frozen 7
    have g0 := HR2.out.frozen 0
    have g1 := HR2.out.frozen 1
    have g2 := HR2.out.frozen 2
    have g3 := HR2.out.frozen 3
    have g4 := HR2.out.frozen 4
    have g5 := HR2.out.frozen 5
    have g6 := HR2.out.frozen 6
    have g7 := HR2.out.frozen 7
    go_wp2
    refine bodyPost_ret (v := .tuple #[.agg #[.int .i64 0, .string ⟨#[]⟩, .string ⟨#[]⟩, .bool false, .int .i64 0, .slice none 0 0, .slice none 0 0, .slice none 0 0], .agg #[.int .i64 0, .string ⟨#[]⟩, .string ⟨#[]⟩, .bool false, .int .i64 0, .slice none 0 0, .slice none 0 0, .slice none 0 0], .bool false]) (by simp [results, Try.results13, go_sem, *]) rfl ?_
    rw [HF.out]
    exact gaveTwo_none (wr5_below (w.heap.size + 3) w.heap.size (by omega) [(0, _), (1, _), (2, _), (3, _), (4, _), (5, _), (6, _), (7, _)] w _ (wr5_below (w.heap.size + 2) w.heap.size (by omega) [(0, _), (1, _), (2, _), (3, _), (4, _), (5, _), (6, _), (7, _)] w _ HB2.out))
  | true =>
  have HNP := Lib.hid (HLL.out.1 rfl)
  have HBD : Hid (b = decide (2 ≤ X.ks.length)) := Lib.hid (by
    have hl := HXS.out.2.1
    by_cases h2 : 2 ≤ X.ks.length
    · rw [decide_eq_true h2]; exact HBB.out.2 ⟨HNP.out, by simp only; omega⟩
    · rw [decide_eq_false h2]; exact bool_no HBB.out (fun h => h2 (by have := h.2; simp only at this; omega)))
  have HPT := Lib.hid (fun ak av ac ck cv cc W (h : NdAt W ak av ac X.ks.length ck X.vs.length cv X.cs.length cc X.ks X.vs X.cs) => parts_of X.lv X.nx X.lo X.hi X.la ak av ac ck cv cc X.ks X.vs X.cs nx W h HXS.out.1 (by have := HXS.out; have := HKL.out; omega) (fun h2 => rises_nth (HXR.out HNP.out) (by unfold hlf; omega) (by unfold hlf; omega)))
  rw [← HBD.out] at HPT
  obtain ⟨Y, hY⟩ : ∃ Y, Y = Nod.or b (Nod.left X nx) := ⟨_, rfl⟩
  obtain ⟨Z, hZ⟩ : ∃ Z, Z = Nod.or b (Nod.right X) := ⟨_, rfl⟩
  have HPT2 := Lib.hid (fun ak av ac ck cv cc W h => (by rw [hY, hZ]; exact HPT.out ak av ac ck cv cc W h : Calls Try.prog 46 #[.agg #[.int .i64 X.lv, .string X.lo, .string X.hi, .bool X.la, .int .i64 X.nx, .slice ak X.ks.length ck, .slice av X.vs.length cv, .slice ac X.cs.length cc], .int .i64 nx] W fun e w' => GaveTwo W w' e b Y Z))
  have HYY := Lib.hid hY
  have HZZ := Lib.hid hZ
  have HCC : Hid (∀ V, Below (w.heap.size + 2) w2 V → ((V.cell? ⟨w.heap.size, 0, none⟩ = some (.int .i64 lv) ∧ V.cell? ⟨w.heap.size, 1, none⟩ = some (.string lo) ∧ V.cell? ⟨w.heap.size, 2, none⟩ = some (.string hi) ∧ V.cell? ⟨w.heap.size, 3, none⟩ = some (.bool la) ∧ V.cell? ⟨w.heap.size, 4, none⟩ = some (.int .i64 nx) ∧ V.cell? ⟨w.heap.size, 5, none⟩ = some (.slice ak ks.length ck) ∧ V.cell? ⟨w.heap.size, 6, none⟩ = some (.slice av vs.length cv) ∧ V.cell? ⟨w.heap.size, 7, none⟩ = some (.slice ac cs.length cc)) ∧ (V.cell? ⟨w.heap.size + 1, 0, none⟩ = some (.int .i64 lv2) ∧ V.cell? ⟨w.heap.size + 1, 1, none⟩ = some (.string lo2) ∧ V.cell? ⟨w.heap.size + 1, 2, none⟩ = some (.string hi2) ∧ V.cell? ⟨w.heap.size + 1, 3, none⟩ = some (.bool la2) ∧ V.cell? ⟨w.heap.size + 1, 4, none⟩ = some (.int .i64 nx2) ∧ V.cell? ⟨w.heap.size + 1, 5, none⟩ = some (.slice ak2 ks2.length ck2) ∧ V.cell? ⟨w.heap.size + 1, 6, none⟩ = some (.slice av2 vs2.length cv2) ∧ V.cell? ⟨w.heap.size + 1, 7, none⟩ = some (.slice ac2 cs2.length cc2))) ∧ Below (w.heap.size + 2) w2 V) := Lib.hid (fun V hb => by
    have kA : NB V w.heap.size #[.int .i64 lv, .string lo, .string hi, .bool la, .int .i64 nx, .slice ak ks.length ck, .slice av vs.length cv, .slice ac cs.length cc] := (hb.block _ (by omega)).trans HA.out
    have kB : NB V (w.heap.size + 1) #[.int .i64 lv2, .string lo2, .string hi2, .bool la2, .int .i64 nx2, .slice ak2 ks2.length ck2, .slice av2 vs2.length cv2, .slice ac2 cs2.length cc2] := (hb.block _ (by omega)).trans HBX.out
    exact ⟨⟨kA.cells, kB.cells⟩, hb⟩)
  have hz2 : w.heap.size + 2 ≤ w2.heap.size := by have := HZ2.out; omega
  clear hY hZ HPT
  go_upto_region 3 with fail
  have hS0 := HCC.out w2.drew (Below.refl _ _).drew
  have hB0 : Below w2.heap.size w2 w2.drew := (Below.refl _ _).drew
  go_region_held_law (fun V => ((V.cell? ⟨w.heap.size, 0, none⟩ = some (.int .i64 lv) ∧ V.cell? ⟨w.heap.size, 1, none⟩ = some (.string lo) ∧ V.cell? ⟨w.heap.size, 2, none⟩ = some (.string hi) ∧ V.cell? ⟨w.heap.size, 3, none⟩ = some (.bool la) ∧ V.cell? ⟨w.heap.size, 4, none⟩ = some (.int .i64 nx) ∧ V.cell? ⟨w.heap.size, 5, none⟩ = some (.slice ak ks.length ck) ∧ V.cell? ⟨w.heap.size, 6, none⟩ = some (.slice av vs.length cv) ∧ V.cell? ⟨w.heap.size, 7, none⟩ = some (.slice ac cs.length cc)) ∧ (V.cell? ⟨w.heap.size + 1, 0, none⟩ = some (.int .i64 lv2) ∧ V.cell? ⟨w.heap.size + 1, 1, none⟩ = some (.string lo2) ∧ V.cell? ⟨w.heap.size + 1, 2, none⟩ = some (.string hi2) ∧ V.cell? ⟨w.heap.size + 1, 3, none⟩ = some (.bool la2) ∧ V.cell? ⟨w.heap.size + 1, 4, none⟩ = some (.int .i64 nx2) ∧ V.cell? ⟨w.heap.size + 1, 5, none⟩ = some (.slice ak2 ks2.length ck2) ∧ V.cell? ⟨w.heap.size + 1, 6, none⟩ = some (.slice av2 vs2.length cv2) ∧ V.cell? ⟨w.heap.size + 1, 7, none⟩ = some (.slice ac2 cs2.length cc2))) ∧ Below (w.heap.size + 2) w2 V)
    (first | (with_reducible exact hS0) | (with_reducible exact hS5) | (with_reducible exact hS6) | ((with_reducible refine HCC.out _ ?_); repeat' (first | (with_reducible exact hB6m) | (with_reducible refine Below.setCell ?_ ?_ _) | (exact Nat.le_refl _) | (exact Nat.le_succ _) | omega)))
    (first
      | (go_at_call 48; (with_reducible refine (HJN.out _ (HB2.out.trans (hB0.mono HB2.out.size))).mono ?_); rintro e w5 ⟨ak5, av5, ac5, ck5, cv5, cc5, rfl, hnd5, hb5, _⟩; have hB5 : Below w2.heap.size w2 w5 := hB0.trans (hb5.mono hB0.size); have hS5 := HCC.out _ (hB5.mono hz2); have HD5 := Lib.hid hnd5; clear hnd5 hb5)
      | (go_at_call 46; (with_reducible refine (HPT2.out _ _ _ _ _ _ _ HD5.out).mono ?_); rintro e w6 hg6; have HG6 := Lib.hid hg6; obtain ⟨ak1, av1, ac1, akb, avb, acb, ck1, cv1, cc1, ckb, cvb, ccb, rfl, _, _, hb6, _⟩ := hg6; have hB6 : Below w2.heap.size w2 w6 := hB5.trans (hb6.mono hB5.size); have hB6m := hB6.mono hz2; have hS6 := HCC.out _ hB6m; obtain ⟨t0, t1, t2, t3, t4, t5, t6, t7⟩ := (HL2.out.below hB6).cells; obtain ⟨u0, u1, u2, u3, u4, u5, u6, u7⟩ := (HR2.out.below hB6).cells; have f0 := (HL2.out.below hB6).frozen 0; have f1 := (HL2.out.below hB6).frozen 1; have f2 := (HL2.out.below hB6).frozen 2; have f3 := (HL2.out.below hB6).frozen 3; have f4 := (HL2.out.below hB6).frozen 4; have f5 := (HL2.out.below hB6).frozen 5; have f6 := (HL2.out.below hB6).frozen 6; have f7 := (HL2.out.below hB6).frozen 7; have g0 := (HR2.out.below hB6).frozen 0; have g1 := (HR2.out.below hB6).frozen 1; have g2 := (HR2.out.below hB6).frozen 2; have g3 := (HR2.out.below hB6).frozen 3; have g4 := (HR2.out.below hB6).frozen 4; have g5 := (HR2.out.below hB6).frozen 5; have g6 := (HR2.out.below hB6).frozen 6; have g7 := (HR2.out.below hB6).frozen 7; clear hb6))
  all_goals
    go_wp2
    refine bodyPost_ret (v := .tuple #[.agg #[.int .i64 Y.lv, .string Y.lo, .string Y.hi, .bool Y.la, .int .i64 Y.nx, .slice ak1 Y.ks.length ck1, .slice av1 Y.vs.length cv1, .slice ac1 Y.cs.length cc1], .agg #[.int .i64 Z.lv, .string Z.lo, .string Z.hi, .bool Z.la, .int .i64 Z.nx, .slice akb Z.ks.length ckb, .slice avb Z.vs.length cvb, .slice acb Z.cs.length ccb], .bool b]) (by simp [results, Try.results13, go_sem, *]) rfl ?_
    have hfin := gaveTwo_stored HG6.out (HB2.out.trans (hB5.mono HB2.out.size)) (A1 := w.heap.size + 1 + 1) (A2 := w.heap.size + 1 + 1 + 1) (by omega) (by have := HZ2.out; have := hB5.size; omega) (by omega) (by have := HZ2.out; have := hB5.size; omega) [(0, .int .i64 Y.lv), (1, .string Y.lo), (2, .string Y.hi), (3, .bool Y.la), (4, .int .i64 Y.nx), (5, .slice ak1 Y.ks.length ck1), (6, .slice av1 Y.vs.length cv1), (7, .slice ac1 Y.cs.length cc1)] [(0, .int .i64 Z.lv), (1, .string Z.lo), (2, .string Z.hi), (3, .bool Z.la), (4, .int .i64 Z.nx), (5, .slice akb Z.ks.length ckb), (6, .slice avb Z.vs.length cvb), (7, .slice acb Z.cs.length ccb)]
    simp only [wr5] at hfin
    rw [← HYY.out, ← HZZ.out]
    (with_reducible exact hfin)
end Go.Proofs.Ytlcnnnljdffbmaa

namespace Go.Proofs.Ytlcnnnljdffbmaa
open Go.RowKit

end Go.Proofs.Ytlcnnnljdffbmaa

namespace Go.Proofs.Ytlcnnnljdffbmaa
open Go.RowKit

/-- append as a step of a region, onto a row of the call's own, of whatever came in: rows of one cell an element. -/
theorem step_append_came {P : Program} {ops : Array Oper} {o : Oper} {a : Act} {w : World} {K : Act → World → Prop} {Q : Exit → Act → World → Prop} {E : Prop}
    (hg : o.guard = none) (s x : Operand) (t : TypeId) (hop : o.op = Op.call { callee := Callee.builtin Builtin.append, args := #[s, x], argTypes := #[t, t] })
    (base : Nat) (e : TypeId) (i : TypeInfo) (z : Value) (bytes : Nat) (h1 : P.underlying t = some (.slice e)) (h2 : P.info? e = some i) (h3 : i.zero = some z) (h4 : i.size = 1) (h5 : i.bytes = bytes) (h6 : z.cells.size = 1)
    (v : Value) (n : Nat) (xs : List Value) (hs : a.eval s = v) (hown : w.ownsRow base e 1 v n xs)
    (A : Option Addr) (m c : Nat) (news : List Value) (hx : a.eval x = .slice A m c) (hl : news.length = m) (hc : 0 < m → ∃ ad, A = some ad ∧ ∀ j u, news[j]? = some u → w.cell? (ad.add j) = some u) (h1c : ∀ u ∈ news, u.oneCell' = true)
    (b1 : n + m ≤ maxLen) (b2 : (n + m) * bytes ≤ 140737488355328) (hbase : base ≤ w.heap.size)
    (hK : ∀ v' w', w'.ownsRow base e 1 v' (n + m) (xs ++ news) → w.grownBy w' v.ownBlock → K (a.put o.dst v') w') :
    if Region.wanted o (yielded ops a.tmps) = true then Oper.wp P o a w K Q else E := by
  have hw : Region.wanted o (yielded ops a.tmps) = true := by simp [Region.wanted, hg]
  rw [if_pos hw]
  have key : ∃ v' w', (Builtin.append_ #[t, t] o.type #[v, .slice A m c]).run P w = .ok v' w' ∧ w'.ownsRow base e 1 v' (n + m) (xs ++ news) ∧ w.grownBy w' v.ownBlock := by
    rcases A with _ | ad
    · have hm : m = 0 := by
        rcases Nat.eq_zero_or_pos m with h | h
        · exact h
        · obtain ⟨ad, e1, _⟩ := hc h
          cases e1
      subst hm
      obtain rfl : news = [] := List.eq_nil_of_length_eq_zero hl
      obtain ⟨b0, c0, hv, hle⟩ : ∃ b0 c0, v = .slice b0 n c0 ∧ n ≤ c0 := by
        rcases hown.2 with ⟨rfl, hn⟩ | ⟨g, cap, cur, rfl, _, _, hn, _⟩
        · exact ⟨none, 0, by rw [hn], by omega⟩
        · exact ⟨_, _, rfl, hn⟩
      refine ⟨v, w, ?_, by simpa using hown, World.grownBy.refl w _⟩
      rw [hv]
      exact run_append_nothing w t t o.type e i h1 h2 b0 n c0 hle _ (Src.ofNil w h1 c)
    · obtain ⟨v', w', r, r1, r2, _⟩ := run_append_own (P := P) w base t o.type e i z 1 bytes h1 h2 h3 h4 h5 h6 (by decide) v n xs hown ad m c news (by omega) (fun j u hj => by
        have hlt : j < news.length := (List.getElem?_eq_some_iff.1 hj).1
        obtain ⟨ad', e1, hcc⟩ := hc (by omega)
        injection e1 with e1
        subst e1
        exact hcc j u hj) h1c b1 b2 hbase
      exact ⟨v', w', r, r1, r2⟩
  obtain ⟨v', w', hrun, r1, r2⟩ := key
  unfold Oper.wp
  simp [execOp, hop, resolve, invoke, builtin, hs, hx, hrun, Result.andThen]
  exact hK v' w' r1 r2

theorem far_own {w : World} {B C n c m : Nat} {t : TypeId} {k : Nat} {a : Option Addr} {xs : List Value} (h : w.ownsRow B t k (.slice a n c) m xs) (hc : C ≤ B) : Far C a := by
  intro ad had
  subst had
  exact Nat.le_trans hc (h.lt _ rfl).1
theorem src_of {w : World} {ao : Option Addr} {n c : Nat} {xs : List Value} (h : Rd w (.slice ao n c) xs) : xs.length = n ∧ (0 < n → ∃ ad, ao = some ad ∧ ∀ j u, xs[j]? = some u → w.cell? (ad.add j) = some u) :=
  ⟨h.len.1, fun hp => h.src (by have := h.len.1; omega)⟩
theorem PartsAt.grown {w wx w9 : World} {cN cL cR : Array Value} {row : Option Nat} {t : TypeId} (h : PartsAt w wx cN cL cR) (hg : wx.grownBy w9 row) (hr : InT wx row t) (hne : 26 ≠ t) (hb : ∀ k, row = some k → w.heap.size ≤ k) : PartsAt w w9 cN cL cR :=
  ⟨h.n.grown hg hr hne, h.l.grown hg hr hne, h.r.grown hg hr hne, h.below.grown hg h.below.size hb⟩

end Go.Proofs.Ytlcnnnljdffbmaa

namespace Go.Proofs.Ytlcnnnljdffbmaa
open Go.RowKit

theorem nth_app_l {a b : List ByteArray} {j : Nat} (h : j < a.length) : nth (a ++ b) j = nth a j := by
  unfold nth; rw [List.getD_eq_getElem?_getD, List.getElem?_append_left h, List.getD_eq_getElem?_getD]
theorem nth_app_r {a b : List ByteArray} {j : Nat} (h : a.length ≤ j) : nth (a ++ b) j = nth b (j - a.length) := by
  unfold nth; rw [List.getD_eq_getElem?_getD, List.getElem?_append_right h, List.getD_eq_getElem?_getD]
theorem ni_app_l {a b : List Int} {j : Nat} (h : j < a.length) : ni (a ++ b) j = ni a j := by
  unfold ni; rw [List.getD_eq_getElem?_getD, List.getElem?_append_left h, List.getD_eq_getElem?_getD]
theorem ni_app_r {a b : List Int} {j : Nat} (h : a.length ≤ j) : ni (a ++ b) j = ni b (j - a.length) := by
  unfold ni; rw [List.getD_eq_getElem?_getD, List.getElem?_append_right h, List.getD_eq_getElem?_getD]

theorem inside_parts {lo hi k : List UInt8} {la : Bool} : insideB lo hi la k = true ↔ lss k lo = false ∧ (la = true ∨ lss k hi = true) := by
  unfold insideB
  rw [Bool.and_eq_true, Bool.not_eq_true', Bool.or_eq_true]

/-- Of neighbours' entries in a row: sound, but for room. -/
theorem Nod.NbP.both_sound {n m : Nod} (h : n.NbP m) {fan : Int} (hf : ((n.ks.length + m.ks.length : Nat) : Int) ≤ fan) : (n.both m).Sound fan := by
  have hk : keyB n.hi = true ∧ lss n.lo.data.toList n.hi.data.toList = true ∧ cellB n.nx = true := h.a.range.more h.last
  have hlo : lss n.lo.data.toList m.lo.data.toList = true := by rw [← h.border]; exact hk.2.1
  refine ⟨?_, ⟨?_, ?_, ?_⟩, ⟨?_, h.rise, ?_⟩, ⟨?_, ?_⟩⟩
  · exact h.b.level
  · exact h.a.range.low
  · exact h.b.range.last
  · intro hl
    obtain ⟨h1, h2, h3⟩ := h.b.range.more hl
    exact ⟨h1, lss_trans _ _ _ hlo h2, h3⟩
  · show (((n.ks ++ m.ks).length : Nat) : Int) ≤ fan
    rw [List.length_append]; exact hf
  · intro i hi
    have hi' : i < n.ks.length + m.ks.length := by rw [← List.length_append]; exact hi
    show insideB n.lo.data.toList m.hi.data.toList m.la (nth (n.ks ++ m.ks) i).data.toList = true
    rw [inside_parts]
    by_cases g : i < n.ks.length
    · rw [nth_app_l g]
      have h3 := h.a.keys.inn i g
      rw [inside_parts, h.last, h.border] at h3
      refine ⟨h3.1, ?_⟩
      cases hl : m.la with
      | true => exact Or.inl rfl
      | false =>
        right
        rcases h3.2 with e | e
        · cases e
        · exact lss_trans _ _ _ e (h.b.range.more hl).2.1
    · rw [nth_app_r (by omega)]
      have h3 := h.b.keys.inn (i - n.ks.length) (by omega)
      rw [inside_parts] at h3
      refine ⟨?_, h3.2⟩
      cases e : lss (nth m.ks (i - n.ks.length)).data.toList n.lo.data.toList with
      | false => rfl
      | true => exact absurd (lss_trans _ _ _ e hlo) (by rw [h3.1]; exact Bool.noConfusion)
  · intro h0
    obtain ⟨a1, a2, a3⟩ := h.a.entries.leaf (h.level.trans h0)
    obtain ⟨b1, b2, b3⟩ := h.b.entries.leaf h0
    refine ⟨?_, ?_, ?_⟩
    · show (n.vs ++ m.vs).length = (n.ks ++ m.ks).length
      rw [List.length_append, List.length_append, a1, b1]
    · show (n.cs ++ m.cs).length = 0
      rw [List.length_append, a2, b2]
    · intro i hi
      have hi' : i < n.ks.length + m.ks.length := by rw [← List.length_append]; exact hi
      show keyB (nth (n.ks ++ m.ks) i) = true
      by_cases g : i < n.ks.length
      · rw [nth_app_l g]; exact a3 i g
      · rw [nth_app_r (by omega)]; exact b3 _ (by omega)
  · intro h0
    obtain ⟨a1, a2, a3, a4, a5, a6⟩ := h.a.entries.inner (fun e => h0 (h.level.symm.trans e))
    obtain ⟨b1, b2, b3, b4, b5, b6⟩ := h.b.entries.inner h0
    refine ⟨?_, ?_, ?_, ?_, ?_, ?_⟩
    · show (n.cs ++ m.cs).length = (n.ks ++ m.ks).length
      rw [List.length_append, List.length_append, a1, b1]
    · show (n.cs ++ m.cs).length ≠ 0
      rw [List.length_append]; omega
    · show (n.vs ++ m.vs).length = 0
      rw [List.length_append, a3, b3]
    · show nth (n.ks ++ m.ks) 0 = n.lo
      rw [nth_app_l (by omega)]; exact a4
    · intro i hi0 hi
      have hi' : i < n.ks.length + m.ks.length := by rw [← List.length_append]; exact hi
      show keyB (nth (n.ks ++ m.ks) i) = true
      by_cases g : i < n.ks.length
      · rw [nth_app_l g]; exact a5 i hi0 g
      · rw [nth_app_r (by omega)]
        by_cases e : i = n.ks.length
        · rw [e, Nat.sub_self, b4, ← h.border]; exact hk.1
        · exact b5 _ (by omega) (by omega)
    · intro i hi
      have hi' : i < n.cs.length + m.cs.length := by rw [← List.length_append]; exact hi
      show cellB (ni (n.cs ++ m.cs) i) = true ∧ ∀ j, j < i → ni (n.cs ++ m.cs) j ≠ ni (n.cs ++ m.cs) i
      by_cases g : i < n.cs.length
      · rw [ni_app_l g]
        refine ⟨(a6 i g).1, fun j hj => ?_⟩
        rw [ni_app_l (by omega)]
        exact (a6 i g).2 j hj
      · rw [ni_app_r (by omega)]
        refine ⟨(b6 _ (by omega)).1, fun j hj => ?_⟩
        by_cases g2 : j < n.cs.length
        · rw [ni_app_l g2]
          intro e
          exact h.apart (i - n.cs.length) (by omega) ⟨j, g2, e⟩
        · rw [ni_app_r (by omega)]
          exact (b6 _ (by omega)).2 _ (by omega)

/-- Merge's condition, as the document says it. -/
theorem mergeP_iff {n m : Nod} {fan : Int} : n.MergeP m fan ↔ (n.NbP m ∧ (4 ≤ fan ∧ fan ≤ 64) ∧ ((n.ks.length : Int) + (m.ks.length : Int) ≤ fan)) := by
  constructor
  · rintro ⟨h1, h2, h3⟩
    refine ⟨h1, h2, ?_⟩
    have h4 : (((n.ks ++ m.ks).length : Nat) : Int) ≤ fan := h3.keys.many
    rw [List.length_append] at h4
    omega
  · rintro ⟨h1, h2, h3⟩
    exact ⟨h1, h2, h1.both_sound (by omega)⟩
end Go.Proofs.Ytlcnnnljdffbmaa

namespace Go.Proofs.Ytlcnnnljdffbmaa
open Go.RowKit

end Go.Proofs.Ytlcnnnljdffbmaa
