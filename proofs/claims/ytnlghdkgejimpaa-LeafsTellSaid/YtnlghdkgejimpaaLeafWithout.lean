/- leafs.Without: a leaf without a key, or none. Condition: sizes that fit. -/
import Derived.Test.YtnlghdkgejimpaaLeafWith
namespace Go.Proofs.Ytnlghdkgejimpaa
open Go.RowKit

def Nod.WithoutP (n : Nod) (k : ByteArray) : Prop := n.Leaf ∧ thereF n.ks k

set_option maxHeartbeats 2000000 in
set_option maxRecDepth 100000 in
theorem without_of (lv nx : Int) (lo hi : ByteArray) (la : Bool) (ak av ac : Option Addr) (ck cv cc : Nat) (ks : List ByteArray) (vs : List Nat) (cs : List Int) (k : ByteArray) (b : Bool) (w : World) (hN : NdAt w ak av ac ks.length ck vs.length cv cs.length cc ks vs cs) (hf : Fit lo hi ks ks.length vs.length cs.length) (hs : ks.length ≤ 200 ∧ vs.length ≤ 200 ∧ cs.length ≤ 200) (hk : k.size ≤ 140737488355328) (hb : b = true ↔ Nod.WithoutP ⟨lv, nx, lo, hi, la, ks, vs, cs⟩ k) :
    Calls Try.prog 14 #[.agg #[.int .i64 lv, .string lo, .string hi, .bool la, .int .i64 nx, .slice ak ks.length ck, .slice av vs.length cv, .slice ac cs.length cc], .string k] w fun e w' => GaveN w w' e b (Nod.or b (Nod.without ⟨lv, nx, lo, hi, la, ks, vs, cs⟩ k)) := by
  obtain ⟨n1, n2, hB⟩ := boxes2 w #[.int .i64 lv, .string lo, .string hi, .bool la, .int .i64 nx, .slice ak ks.length ck, .slice av vs.length cv, .slice ac cs.length cc] #[.int .i64 0, .string ⟨#[]⟩, .string ⟨#[]⟩, .bool false, .int .i64 0, .slice none 0 0, .slice none 0 0, .slice none 0 0]
  obtain ⟨w1, hw1⟩ : ∃ w1, w1 = (w.alloc (.cells #[.int .i64 lv, .string lo, .string hi, .bool la, .int .i64 nx, .slice ak ks.length ck, .slice av vs.length cv, .slice ac cs.length cc] 26)).alloc (.cells #[.int .i64 0, .string ⟨#[]⟩, .string ⟨#[]⟩, .bool false, .int .i64 0, .slice none 0 0, .slice none 0 0, .slice none 0 0] 26) := ⟨_, rfl⟩
  have HB : Hid (Below w.heap.size w w1) := Lib.hid (by rw [hw1]; exact hB)
  have HN1 : Hid (NB w1 w.heap.size #[.int .i64 lv, .string lo, .string hi, .bool la, .int .i64 nx, .slice ak ks.length ck, .slice av vs.length cv, .slice ac cs.length cc]) := Lib.hid (by rw [hw1]; exact n1)
  have HN2 : Hid (NB w1 (w.heap.size + 1) #[.int .i64 0, .string ⟨#[]⟩, .string ⟨#[]⟩, .bool false, .int .i64 0, .slice none 0 0, .slice none 0 0, .slice none 0 0]) := Lib.hid (by rw [hw1]; exact n2)
  have HSZ : Hid (w1.heap.size = w.heap.size + 1 + 1) := Lib.hid (by rw [hw1, World.size_alloc, World.size_alloc])
  have HW1 := Lib.hid hw1
  obtain ⟨q0, q1, q2, q3, q4, q5, q6, q7⟩ := HN1.out.cells
  obtain ⟨l, hl⟩ := bool_or (lv = 0 ∧ SoundP lv nx lo hi la ks.length vs.length cs.length ks cs 64)
  have HIS := Lib.hid (fun W (h : Below w1.heap.size w1 W) => isLeaf_of lv nx lo hi la ak av ac ks.length ck vs.length cv cs.length cc ks vs cs l W ((hN.keep HB.out).keep h) hf hl)
  have HCL := Lib.hid (nclone_any lv nx lo hi la ak av ac ks.length ck vs.length cv cs.length cc ks vs cs)
  have HFI := Lib.hid (fun hu => find_any (.slice ak ks.length ck) k ks w1 ((hN.k.keep HB.out)) hk hf.ks (by omega) hu)
  have HFW := Lib.hid (find_in (.slice ak ks.length ck) k ks w1 ((hN.k.keep HB.out)) hk hf.ks (by omega))
  have HND := Lib.hid hN
  have HFT := Lib.hid hf
  have HSM := Lib.hid hs
  have HLL := Lib.hid hl
  have HBB := Lib.hid hb
  clear hN hf hs hk hb hl hw1 n1 n2 hB
  cases l with
  | false =>
    have HF : Hid (b = false) := Lib.hid (bool_no HBB.out (fun h => by have := HLL.out.2 h.1; cases this))
    go_enter Try.func14, Try.ntmps14
    go_wp2_with fail
    rw [← HW1.out]
    refine HFW.out.mono ?_
    rintro e w2 ⟨at_, is, rfl, hx1, hx2, hb2⟩
    clear hx1 hx2
    cases is with
    | false =>
      have HB2 := Lib.hid hb2
      clear hb2 q0 q1 q2 q3 q4 q5 q6 q7
      have HRB := Lib.hid (HN2.out.below HB2.out)
      obtain ⟨t0, t1, t2, t3, t4, t5, t6, t7⟩ := HRB.out.cells
      have f0 := HRB.out.frozen 0
      have f1 := HRB.out.frozen 1
      have f2 := HRB.out.frozen 2
      have f3 := HRB.out.frozen 3
      have f4 := HRB.out.frozen 4
      have f5 := HRB.out.frozen 5
      have f6 := HRB.out.frozen 6
      have f7 := HRB.out.frozen 7
      go_wp2
      refine bodyPost_ret (v := .tuple #[.agg #[.int .i64 0, .string ⟨#[]⟩, .string ⟨#[]⟩, .bool false, .int .i64 0, .slice none 0 0, .slice none 0 0, .slice none 0 0], .bool false]) (by simp [results, Try.results14, go_sem, *]) rfl ?_
      first | rw [HF.out] | skip
      exact gave_none (wr5_below (w.heap.size + 1) w.heap.size (by omega) [(0, _), (1, _), (2, _), (3, _), (4, _), (5, _), (6, _), (7, _)] w w2 (HB.out.trans (HB2.out.mono HB.out.size)))
    | true =>
      obtain ⟨q0, q1, q2, q3, q4, q5, q6, q7⟩ := (HN1.out.below hb2).cells
      have HBX := Lib.hid hb2
      clear hb2
      go_wp2_with fail
      refine (HIS.out _ HBX.out).mono ?_
      rintro e w3 ⟨rfl, hb3⟩
      have HB3 := Lib.hid (HBX.out.trans (hb3.mono HBX.out.size))
      clear hb3 q0 q1 q2 q3 q4 q5 q6 q7
      have HRB := Lib.hid (HN2.out.below HB3.out)
      obtain ⟨t0, t1, t2, t3, t4, t5, t6, t7⟩ := HRB.out.cells
      have f0 := HRB.out.frozen 0
      have f1 := HRB.out.frozen 1
      have f2 := HRB.out.frozen 2
      have f3 := HRB.out.frozen 3
      have f4 := HRB.out.frozen 4
      have f5 := HRB.out.frozen 5
      have f6 := HRB.out.frozen 6
      have f7 := HRB.out.frozen 7
      go_wp2
      refine bodyPost_ret (v := .tuple #[.agg #[.int .i64 0, .string ⟨#[]⟩, .string ⟨#[]⟩, .bool false, .int .i64 0, .slice none 0 0, .slice none 0 0, .slice none 0 0], .bool false]) (by simp [results, Try.results14, go_sem, *]) rfl ?_
      first | rw [HF.out] | skip
      exact gave_none (wr5_below (w.heap.size + 1) w.heap.size (by omega) [(0, _), (1, _), (2, _), (3, _), (4, _), (5, _), (6, _), (7, _)] w w3 (HB.out.trans (HB3.out.mono HB.out.size)))
  | true =>
    have HS := Lib.hid (HLL.out.1 rfl)
    have HLE := Lib.hid (HS.out.2.entries.leaf HS.out.1)
    have HRI := Lib.hid HS.out.2.keys.rise
    have HBT : Hid (b = true ↔ thereF ks k) := Lib.hid (HBB.out.trans ⟨fun h => h.2, fun h => ⟨HS.out, h⟩⟩)
    go_enter Try.func14, Try.ntmps14
    go_wp2_with fail
    rw [← HW1.out]
    refine (HFI.out HRI.out).mono ?_
    rintro e w2 ⟨at_, is, rfl, hE, hi, hb2⟩
    obtain rfl : at_ = placeF ks k := hE.one (edge_place HRI.out k)
    have hib : is = b := by
      have h3 : is = true ↔ thereF ks k := hi
      cases is with
      | true => exact (HBT.out.2 (h3.1 rfl)).symm
      | false => exact (bool_no HBT.out (fun h => by have := h3.2 h; cases this)).symm
    subst hib
    clear hE hi
    cases is with
    | false =>
      have HF : Hid (Nod.or false (Nod.without ⟨lv, nx, lo, hi, la, ks, vs, cs⟩ k) = .none) := Lib.hid rfl
      have HB2 := Lib.hid hb2
      clear hb2 q0 q1 q2 q3 q4 q5 q6 q7
      have HRB := Lib.hid (HN2.out.below HB2.out)
      obtain ⟨t0, t1, t2, t3, t4, t5, t6, t7⟩ := HRB.out.cells
      have f0 := HRB.out.frozen 0
      have f1 := HRB.out.frozen 1
      have f2 := HRB.out.frozen 2
      have f3 := HRB.out.frozen 3
      have f4 := HRB.out.frozen 4
      have f5 := HRB.out.frozen 5
      have f6 := HRB.out.frozen 6
      have f7 := HRB.out.frozen 7
      go_wp2
      refine bodyPost_ret (v := .tuple #[.agg #[.int .i64 0, .string ⟨#[]⟩, .string ⟨#[]⟩, .bool false, .int .i64 0, .slice none 0 0, .slice none 0 0, .slice none 0 0], .bool false]) (by simp [results, Try.results14, go_sem, *]) rfl ?_
      first | rw [HF.out] | skip
      exact gave_none (wr5_below (w.heap.size + 1) w.heap.size (by omega) [(0, _), (1, _), (2, _), (3, _), (4, _), (5, _), (6, _), (7, _)] w w2 (HB.out.trans (HB2.out.mono HB.out.size)))
    | true =>
      have HTH := Lib.hid (HBT.out.1 rfl)
      clear q0 q1 q2 q3 q4 q5 q6 q7
      obtain ⟨q0, q1, q2, q3, q4, q5, q6, q7⟩ := (HN1.out.below hb2).cells
      have HBX := Lib.hid hb2
      clear hb2
      go_wp2_with fail
      refine (HIS.out _ HBX.out).mono ?_
      rintro e w2b ⟨rfl, hb3⟩
      have HB2 := Lib.hid (HBX.out.trans (hb3.mono HBX.out.size))
      clear hb3 q0 q1 q2 q3 q4 q5 q6 q7 HIS
      obtain ⟨q0, q1, q2, q3, q4, q5, q6, q7⟩ := (HN1.out.below HB2.out).cells
      go_upto_region 4 with fail
      go_cut [8] (fun s10 wx => Hid (CopyAt w1 wx s10 lv nx lo hi la ks vs cs))
      case first =>
        go_wp2_with fail
        refine (HCL.out w2b ((HND.out.keep HB.out).keep HB2.out) (by have := HSM.out; omega)).mono ?_
        rintro e w3 ⟨kv, vv, cv2, rfl, hk1, hk2, hk3, hb3⟩
        obtain ⟨ko, rfl⟩ := hk1.open
        obtain ⟨vo, rfl⟩ := hk2.open
        obtain ⟨co, rfl⟩ := hk3.open
        rw [List.length_map] at hk1 hk2 hk3
        have HK1 := Lib.hid hk1
        have HK2 := Lib.hid hk2
        have HK3 := Lib.hid hk3
        have HB3 := Lib.hid hb3
        clear hk1 hk2 hk3 hb3
        go_wp2
        go_meet
        exact Lib.hid (copy_at HB2.out HB3.out HK1.out HK2.out HK3.out)
      case rest =>
        obtain ⟨gm, ko, vo, co, rfl, hg, hm, r1, r2, r3, hb⟩ := hcut.out
        have HG := Lib.hid hg
        have HM := Lib.hid hm
        have HR3 := Lib.hid r3
        have HBC := Lib.hid hb
        clear hg hm r1 r2 r3 hb hcut q0 q1 q2 q3 q4 q5 q6 q7 HCL
        have hlt : placeF ks k < ks.length := HTH.out.1
        have HEQ : Hid (Nod.without ⟨lv, nx, lo, hi, la, ks, vs, cs⟩ k = ⟨lv, nx, lo, hi, la, cutF ks (placeF ks k), cutF vs (placeF ks k), cs⟩) := Lib.hid rfl
        clear HTH HBT
        generalize placeF ks k = a at *
        have hlt2 : a < vs.length := by rw [HLE.out.1]; exact hlt
        have HAS := Lib.hid (cutStr_yes ak ks.length ck a (ks.map Value.string) wc (((HND.out.k.keep HB.out).keep HBC.out)) (ones_str ks) (by have := HSM.out; omega) hlt)
        have HAU := Lib.hid (fun W (h : Below w1.heap.size w1 W) => cutU64_yes av vs.length cv a (vs.map uv) W (((HND.out.v.keep HB.out).keep h)) (ones_u64 vs) (by have := HSM.out; omega) hlt2)
        obtain ⟨ks2, hks2⟩ : ∃ ks2, ks2 = cutF ks a := ⟨_, rfl⟩
        obtain ⟨vs2, hvs2⟩ : ∃ vs2, vs2 = cutF vs a := ⟨_, rfl⟩
        have HLN : Hid (ks2.length ≤ ks.length ∧ vs2.length ≤ vs.length) := Lib.hid (by rw [hks2, hvs2, cutF_len hlt, cutF_len hlt2]; omega)
        rw [← hks2, ← hvs2] at HEQ
        rw [← cutF_map, ← hks2] at HAS
        have hv3 : (vs.map uv).take a ++ (vs.map uv).drop (a + 1) = vs2.map uv := by rw [hvs2, cutF_map]
        rw [hv3] at HAU
        have ha : a < 274877906944 := by have := HSM.out; omega
        have HLE3 := Lib.hid (And.intro hlt hlt2)
        clear hv3 hks2 hvs2 hlt hlt2
        obtain ⟨q0, q1, q2, q3, q4, q5, q6, q7⟩ := (HN1.out.below HBC.out).cells
        go_wp2_with fail
        refine HAS.out.mono ?_
        rintro e wa ⟨kv2, rfl, hm5⟩
        obtain ⟨ka2, rfl, r5, hb5⟩ := new_of_made hm5 HBC.out.size
        rw [List.length_map] at r5
        rw [List.length_map]
        have M5 := HM.out.below hb5
        have e5 := M5.frozen 5
        have d5 := M5.cells.2.2.2.2.2.1
        obtain ⟨wb, hwb⟩ : ∃ wb, wb = wa.setCell ⟨gm, 5, none⟩ (.slice ka2 ks2.length ks2.length) := ⟨_, rfl⟩
        have MB : Hid (NB wb gm _) := Lib.hid (by rw [hwb]; exact M5.s5 _)
        have LB1 : Hid (NewRow w1 wb 9 (.slice ka2 ks2.length ks2.length) (ks2.map Value.string)) := Lib.hid (by rw [hwb]; exact r5.box M5 (by decide) _)
        have LB3 : Hid (NewRow w1 wb 3 (.slice co cs.length cs.length) (cs.map (Value.int .i64))) := Lib.hid (by rw [hwb]; exact (HR3.out.keep hb5).box M5 (by decide) _)
        have HBB1 : Hid (Below w1.heap.size w1 wb) := Lib.hid (by rw [hwb]; exact (HBC.out.trans (hb5.mono HBC.out.size)).setCell HG.out _)
        have HWB := Lib.hid hwb
        clear hm5 r5 hb5 M5 hwb q0 q1 q2 q3 q4 q5 q6 q7 HM HR3 HAS
        go_upto_region 6 with fail
        rw [← HWB.out]
        clear d5 e5 HWB
        obtain ⟨q0, q1, q2, q3, q4, q5, q6, q7⟩ := (HN1.out.below HBB1.out).cells
        go_wp2_with fail
        refine (HAU.out _ HBB1.out).mono ?_
        rintro e wd ⟨vv2, rfl, hm7⟩
        obtain ⟨va2, rfl, r7, hb7⟩ := new_of_made hm7 HBB1.out.size
        rw [List.length_map] at r7
        rw [List.length_map]
        have M7 := MB.out.below hb7
        have e6 := M7.frozen 6
        have d6 := M7.cells.2.2.2.2.2.2.1
        obtain ⟨w5, hw5⟩ : ∃ w5, w5 = wd.setCell ⟨gm, 6, none⟩ (.slice va2 vs2.length vs2.length) := ⟨_, rfl⟩
        have HM5 : Hid (NB w5 gm #[.int .i64 lv, .string lo, .string hi, .bool la, .int .i64 nx, .slice ka2 ks2.length ks2.length, .slice va2 vs2.length vs2.length, .slice co cs.length cs.length]) := Lib.hid (by rw [hw5]; exact M7.s6 _)
        have L1 : Hid (NewRow w1 w5 9 (.slice ka2 ks2.length ks2.length) (ks2.map Value.string)) := Lib.hid (by rw [hw5]; exact (LB1.out.keep hb7).box M7 (by decide) _)
        have L2 : Hid (NewRow w1 w5 27 (.slice va2 vs2.length vs2.length) (vs2.map uv)) := Lib.hid (by rw [hw5]; exact r7.box M7 (by decide) _)
        have L3 : Hid (NewRow w1 w5 3 (.slice co cs.length cs.length) (cs.map (Value.int .i64))) := Lib.hid (by rw [hw5]; exact (LB3.out.keep hb7).box M7 (by decide) _)
        have HB5 : Hid (Below w1.heap.size w1 w5) := Lib.hid (by rw [hw5]; exact (HBB1.out.trans (hb7.mono HBB1.out.size)).setCell HG.out _)
        have HW5 := Lib.hid hw5
        clear hm7 r7 hb7 M7 hw5 MB LB1 LB3 HAU q0 q1 q2 q3 q4 q5 q6 q7
        go_upto_region 7 with fail
        rw [← HW5.out]
        clear d6 e6 HW5
        obtain ⟨d0, d1, d2, d3, d4, d5, d6, d7⟩ := HM5.out.cells
        have HRB := Lib.hid (HN2.out.below HB5.out)
        obtain ⟨t0, t1, t2, t3, t4, t5, t6, t7⟩ := HRB.out.cells
        have f0 := HRB.out.frozen 0
        have f1 := HRB.out.frozen 1
        have f2 := HRB.out.frozen 2
        have f3 := HRB.out.frozen 3
        have f4 := HRB.out.frozen 4
        have f5 := HRB.out.frozen 5
        have f6 := HRB.out.frozen 6
        have f7 := HRB.out.frozen 7
        have HBE := Lib.hid (HB.out.trans (HB5.out.mono HB.out.size))
        go_wp2
        refine bodyPost_ret (v := .tuple #[.agg #[.int .i64 lv, .string lo, .string hi, .bool la, .int .i64 nx, .slice ka2 ks2.length ks2.length, .slice va2 vs2.length vs2.length, .slice co cs.length cs.length], .bool true]) (by simp [results, Try.results14, go_sem, *]) rfl ?_
        rw [HEQ.out]
        have hz := HSZ.out
        refine gave_rows (w1 := w1) L1.out L2.out L3.out (by have := HSM.out; have := HLN.out; omega) HB.out.size ?_ ?_
        · exact fun g hg => wr5_far (w.heap.size + 1) g (by omega) [(0, _), (1, _), (2, _), (3, _), (4, _), (5, _), (6, _), (7, _)] w5
        · exact wr5_below (w.heap.size + 1) w.heap.size (by omega) [(0, _), (1, _), (2, _), (3, _), (4, _), (5, _), (6, _), (7, _)] w w5 HBE.out
end Go.Proofs.Ytnlghdkgejimpaa
