/- The law HalveParts, walked: a node as two, and an inner one with one entry more as two, are the document's, or there are none; what was handed in stays. Condition: the node's rows are there. -/
import Derived.Test.YtmkglaghnjnooaaHalveMerge2
import Derived.Test.YtmkglaghnjnooaaHalveRefs2
import Derived.Test.YtmkglaghnjnooaaNodeRSame
import Derived.Test.YtmkglaghnjnooaaNodeClone2
namespace Go.Proofs.Ytmkglaghnjnooaa
open Go.RowKit

theorem fit_light13 {lo hi : ByteArray} {ks : List ByteArray} {nv nc : Nat} (h : LightP lo hi ks.length nv nc ks) : Fit lo hi ks ks.length nv nc := by
  refine ⟨by have := h.b; omega, by have := h.b; omega, fun x hx => ?_, by have := h.n; omega⟩
  obtain ⟨i, hi, rfl⟩ := List.getElem_of_mem hx
  have := h.k i hi
  rw [nth_eq hi] at this
  omega
theorem rsame_eq13 (n : Nod) (ak av ac ak2 av2 ac2 : Option Addr) (ck cv cc ck2 cv2 cc2 : Nat) (w : World) (hN : NdAt w ak av ac n.ks.length ck n.vs.length cv n.cs.length cc n.ks n.vs n.cs) (hM : NdAt w ak2 av2 ac2 n.ks.length ck2 n.vs.length cv2 n.cs.length cc2 n.ks n.vs n.cs) :
    Calls Try.prog 16 #[.agg #[.int .i64 n.lv, .string n.lo, .string n.hi, .bool n.la, .int .i64 n.nx, .slice ak n.ks.length ck, .slice av n.vs.length cv, .slice ac n.cs.length cc], .agg #[.int .i64 n.lv, .string n.lo, .string n.hi, .bool n.la, .int .i64 n.nx, .slice ak2 n.ks.length ck2, .slice av2 n.vs.length cv2, .slice ac2 n.cs.length cc2]] w fun e w' => e = .returned (.bool true) ∧ Below w.heap.size w w' :=
  rnsame_of n.lv n.nx n.lo n.hi n.la ak av ac n.ks.length ck n.vs.length cv n.cs.length cc n.lv n.nx n.lo n.hi n.la ak2 av2 ac2 n.ks.length ck2 n.vs.length cv2 n.cs.length cc2 n.ks n.vs n.cs n.ks n.vs n.cs true w hN hM ⟨fun _ => ⟨rfl, rfl, rfl, rfl, rfl, rfl, rfl, rfl⟩, fun _ => rfl⟩

set_option maxHeartbeats 16000000 in
set_option maxRecDepth 100000 in
theorem halveParts_any (lv nx : Int) (lo hi : ByteArray) (la : Bool) (ak av ac : Option Addr) (ck cv cc : Nat) (ks : List ByteArray) (vs : List Nat) (cs : List Int) (low : ByteArray) (kid cell : Int) (w : World) (hN : NdAt w ak av ac ks.length ck vs.length cv cs.length cc ks vs cs) :
    Calls Try.prog 3 #[.agg #[.int .i64 lv, .string lo, .string hi, .bool la, .int .i64 nx, .slice ak ks.length ck, .slice av vs.length cv, .slice ac cs.length cc], .string low, .int .i64 kid, .int .i64 cell] w fun e w' => e = .returned (.bool true) ∧ Below w.heap.size w w' := by
  have HB := Lib.hid (boxed_below w (.cells #[.int .i64 lv, .string lo, .string hi, .bool la, .int .i64 nx, .slice ak ks.length ck, .slice av vs.length cv, .slice ac cs.length cc] 26))
  have HNB := Lib.hid (NB.new w #[.int .i64 lv, .string lo, .string hi, .bool la, .int .i64 nx, .slice ak ks.length ck, .slice av vs.length cv, .slice ac cs.length cc])
  have HND := Lib.hid (hN.keep HB.out)
  obtain ⟨w1, hw1⟩ : ∃ w1, w1 = w.alloc (.cells #[.int .i64 lv, .string lo, .string hi, .bool la, .int .i64 nx, .slice ak ks.length ck, .slice av vs.length cv, .slice ac cs.length cc] 26) := ⟨_, rfl⟩
  rw [← hw1] at HB HNB HND
  have HW1 := Lib.hid hw1
  have HL := Lib.hid (nlight_any lv nx lo hi la ak av ac ks.length ck vs.length cv cs.length cc ks w1 HND.out.k (by have := rd_len hN.v; omega) (by have := rd_len hN.c; omega))
  have HLV := Lib.hid lives13_any
  obtain ⟨q0, q1, q2, q3, q4, q5, q6, q7⟩ := HNB.out.cells
  clear hN hw1
  go_enter Try.func3, Try.ntmps3
  go_wp2_with fail
  rw [← HW1.out]
  refine HL.out.mono ?_
  rintro e w2 ⟨r, rfl, hr, hb2⟩
  have HP := Lib.hid hr
  have Hn := Lib.hid hb2
  clear hr hb2 q0 q1 q2 q3 q4 q5 q6 q7 HL HW1
  obtain ⟨q0, q1, q2, q3, q4, q5, q6, q7⟩ := (HNB.out.below Hn.out).cells
  cases r with
  | false =>
    have HE := Lib.hid (HB.out.trans (Hn.out.mono HB.out.size))
    go_wp2_with fail
    refine (HLV.out _).mono ?_
    rintro e wl ⟨rfl, hbl⟩
    have HBL := Lib.hid (HE.out.trans (hbl.mono HE.out.size))
    clear hbl
    go_wp2
    go_ret
    exact ⟨rfl, HBL.out⟩
  | true =>
    have HLP := Lib.hid (HP.out.1 rfl)
    have HFT := Lib.hid (fit_light13 HLP.out)
    by_cases hk : 100 < low.size
    case pos =>
      have hk2 : (100 : Int) < low.size := by omega
      have HE := Lib.hid (HB.out.trans (Hn.out.mono HB.out.size))
      go_wp2_with fail
      refine (HLV.out _).mono ?_
      rintro e wl ⟨rfl, hbl⟩
      have HBL := Lib.hid (HE.out.trans (hbl.mono HE.out.size))
      clear hbl
      go_wp2
      go_ret
      exact ⟨rfl, HBL.out⟩
    case neg =>
      have hk2 : (low.size : Int) ≤ 100 := by omega
      have hks : low.size ≤ 140737488355328 := by omega
      have HS2 : Hid (ks.length ≤ 200 ∧ vs.length ≤ 200 ∧ cs.length ≤ 200) := Lib.hid (by have := HLP.out.n; omega)
      obtain ⟨b, hb⟩ := bool_or (Nod.SplitP ⟨lv, nx, lo, hi, la, ks, vs, cs⟩ cell)
      obtain ⟨c, hc⟩ := bool_or (Nod.BurstP ⟨lv, nx, lo, hi, la, ks, vs, cs⟩ low kid cell)
      have HCL := Lib.hid (nclone_any lv nx lo hi la ak av ac ks.length ck vs.length cv cs.length cc ks vs cs)
      have HSP := Lib.hid (fun W (h : Below w1.heap.size w1 W) => (split_of lv nx lo hi la ak av ac ck cv cc ks vs cs cell b W (HND.out.keep h) HFT.out hb).mono (fun e w' g => GaveTwo.d g))
      have HRS := Lib.hid (fun ko vo co W h => rsplit_of lv nx lo hi la ko vo co ks.length vs.length cs.length ks vs cs cell b W h HFT.out hb)
      have HBU := Lib.hid (fun W (h : Below w1.heap.size w1 W) => (burst_of lv nx lo hi la ak av ac ck cv cc ks vs cs low kid cell c W (HND.out.keep h) HFT.out hks hc).mono (fun e w' g => GaveTwo.d g))
      have HRB := Lib.hid (fun ko vo co W h => rburst_of lv nx lo hi la ko vo co ks.length vs.length cs.length ks vs cs low kid cell c W h HFT.out hks hc)
      have HSE := Lib.hid rsame_eq13
      generalize Nod.or b (Nod.left ⟨lv, nx, lo, hi, la, ks, vs, cs⟩ cell) = pa at HSP HRS
      generalize Nod.or b (Nod.right ⟨lv, nx, lo, hi, la, ks, vs, cs⟩) = pb at HSP HRS
      generalize Nod.or c (Nod.left (Nod.post ⟨lv, nx, lo, hi, la, ks, vs, cs⟩ low kid) cell) = pc at HBU HRB
      generalize Nod.or c (Nod.right (Nod.post ⟨lv, nx, lo, hi, la, ks, vs, cs⟩ low kid)) = pd at HBU HRB
      clear hb hc hks hk
      go_wp2_with fail
      refine (HCL.out _ (HND.out.keep Hn.out) (by have := HS2.out; omega)).mono ?_
      rintro e w3 ⟨kv, vv, cv2, rfl, hk1, hk2', hk3, hb3⟩
      obtain ⟨ko, rfl⟩ := hk1.open
      obtain ⟨vo, rfl⟩ := hk2'.open
      obtain ⟨co, rfl⟩ := hk3.open
      rw [List.length_map] at hk1 hk2' hk3
      rw [List.length_map, List.length_map, List.length_map]
      have hnd3 : NdAt w3 ko vo co ks.length ks.length vs.length vs.length cs.length cs.length ks vs cs := ⟨hk1.rd (by rw [List.length_map]; have := HS2.out; omega), hk2'.rd (by rw [List.length_map]; have := HS2.out; omega), hk3.rd (by rw [List.length_map]; have := HS2.out; omega)⟩
      clear hk1 hk2' hk3 q0 q1 q2 q3 q4 q5 q6 q7 HCL
      obtain ⟨W3, hW3⟩ : ∃ W, W = w3.alloc (.cells #[.int .i64 lv, .string lo, .string hi, .bool la, .int .i64 nx, .slice ko ks.length ks.length, .slice vo vs.length vs.length, .slice co cs.length cs.length] 26) := ⟨_, rfl⟩
      have hx3 := boxed_below w3 (.cells #[.int .i64 lv, .string lo, .string hi, .bool la, .int .i64 nx, .slice ko ks.length ks.length, .slice vo vs.length vs.length, .slice co cs.length cs.length] 26)
      have HX3 : Hid (NB W3 w3.heap.size #[.int .i64 lv, .string lo, .string hi, .bool la, .int .i64 nx, .slice ko ks.length ks.length, .slice vo vs.length vs.length, .slice co cs.length cs.length]) := Lib.hid (by rw [hW3]; exact NB.new _ _)
      rw [← hW3] at hx3
      have HY3 := Lib.hid (hnd3.keep hx3)
      have HZ3 := Lib.hid (hb3.trans (hx3.mono hb3.size))
      have HW3 := Lib.hid hW3
      have Hn_3 := Lib.hid (Hn.out.trans (HZ3.out.mono Hn.out.size))
      clear hW3 hx3 hnd3 hb3 Hn
      have HS3 : Hid (Below W3.heap.size W3 W3) := Lib.hid (Below.refl _ _)
      go_upto_region 4 with fail
      rw [← HW3.out]
      clear HW3
      obtain ⟨q0, q1, q2, q3, q4, q5, q6, q7⟩ := (HNB.out.below Hn_3.out).cells
      go_wp2_with fail
      refine (HSP.out _ Hn_3.out).mono ?_
      rintro e w4 ⟨aka4, ava4, aca4, akb4, avb4, acb4, cka4, cva4, cca4, ckb4, cvb4, ccb4, rfl, hda4, hdb4, hb4⟩
      clear q0 q1 q2 q3 q4 q5 q6 q7
      obtain ⟨ma4, mb4, hx4⟩ := boxes2 w4 #[.int .i64 pa.lv, .string pa.lo, .string pa.hi, .bool pa.la, .int .i64 pa.nx, .slice aka4 pa.ks.length cka4, .slice ava4 pa.vs.length cva4, .slice aca4 pa.cs.length cca4] #[.int .i64 pb.lv, .string pb.lo, .string pb.hi, .bool pb.la, .int .i64 pb.nx, .slice akb4 pb.ks.length ckb4, .slice avb4 pb.vs.length cvb4, .slice acb4 pb.cs.length ccb4]
      obtain ⟨W4, hW4⟩ : ∃ W, W = (w4.alloc (.cells #[.int .i64 pa.lv, .string pa.lo, .string pa.hi, .bool pa.la, .int .i64 pa.nx, .slice aka4 pa.ks.length cka4, .slice ava4 pa.vs.length cva4, .slice aca4 pa.cs.length cca4] 26)).alloc (.cells #[.int .i64 pb.lv, .string pb.lo, .string pb.hi, .bool pb.la, .int .i64 pb.nx, .slice akb4 pb.ks.length ckb4, .slice avb4 pb.vs.length cvb4, .slice acb4 pb.cs.length ccb4] 26) := ⟨_, rfl⟩
      rw [← hW4] at ma4 mb4 hx4
      have HX4a := Lib.hid ma4
      have HX4b := Lib.hid mb4
      have HY4a := Lib.hid (hda4.keep hx4)
      have HY4b := Lib.hid (hdb4.keep hx4)
      have HZ4 := Lib.hid (hb4.trans (hx4.mono hb4.size))
      have HW4 := Lib.hid hW4
      have Hn_4 := Lib.hid (Hn_3.out.trans (HZ4.out.mono Hn_3.out.size))
      have HS3_4 := Lib.hid (HS3.out.trans (HZ4.out.mono HS3.out.size))
      clear hW4 hx4 ma4 mb4 hda4 hdb4 hb4 Hn_3 HS3
      have HS4 : Hid (Below W4.heap.size W4 W4) := Lib.hid (Below.refl _ _)
      go_upto_region 5 with fail
      rw [← HW4.out]
      clear HW4
      obtain ⟨t0, t1, t2, t3, t4, t5, t6, t7⟩ := (HX3.out.below HS3_4.out).cells
      go_wp2_with fail
      refine (HRS.out ko vo co _ (HY3.out.keep HS3_4.out)).mono ?_
      rintro e w5 ⟨aka5, ava5, aca5, akb5, avb5, acb5, cka5, cva5, cca5, ckb5, cvb5, ccb5, rfl, hda5, hdb5, hb5⟩
      clear t0 t1 t2 t3 t4 t5 t6 t7
      obtain ⟨ma5, mb5, hx5⟩ := boxes2 w5 #[.int .i64 pa.lv, .string pa.lo, .string pa.hi, .bool pa.la, .int .i64 pa.nx, .slice aka5 pa.ks.length cka5, .slice ava5 pa.vs.length cva5, .slice aca5 pa.cs.length cca5] #[.int .i64 pb.lv, .string pb.lo, .string pb.hi, .bool pb.la, .int .i64 pb.nx, .slice akb5 pb.ks.length ckb5, .slice avb5 pb.vs.length cvb5, .slice acb5 pb.cs.length ccb5]
      obtain ⟨W5, hW5⟩ : ∃ W, W = (w5.alloc (.cells #[.int .i64 pa.lv, .string pa.lo, .string pa.hi, .bool pa.la, .int .i64 pa.nx, .slice aka5 pa.ks.length cka5, .slice ava5 pa.vs.length cva5, .slice aca5 pa.cs.length cca5] 26)).alloc (.cells #[.int .i64 pb.lv, .string pb.lo, .string pb.hi, .bool pb.la, .int .i64 pb.nx, .slice akb5 pb.ks.length ckb5, .slice avb5 pb.vs.length cvb5, .slice acb5 pb.cs.length ccb5] 26) := ⟨_, rfl⟩
      rw [← hW5] at ma5 mb5 hx5
      have HX5a := Lib.hid ma5
      have HX5b := Lib.hid mb5
      have HY5a := Lib.hid (hda5.keep hx5)
      have HY5b := Lib.hid (hdb5.keep hx5)
      have HZ5 := Lib.hid (hb5.trans (hx5.mono hb5.size))
      have HW5 := Lib.hid hW5
      have Hn_5 := Lib.hid (Hn_4.out.trans (HZ5.out.mono Hn_4.out.size))
      have HS3_5 := Lib.hid (HS3_4.out.trans (HZ5.out.mono HS3_4.out.size))
      have HS4_5 := Lib.hid (HS4.out.trans (HZ5.out.mono HS4.out.size))
      clear hW5 hx5 ma5 mb5 hda5 hdb5 hb5 Hn_4 HS3_4 HS4
      have HS5 : Hid (Below W5.heap.size W5 W5) := Lib.hid (Below.refl _ _)
      go_upto_region 6 with fail
      rw [← HW5.out]
      clear HW5
      obtain ⟨q0, q1, q2, q3, q4, q5, q6, q7⟩ := (HNB.out.below Hn_5.out).cells
      go_wp2_with fail
      refine (HBU.out _ Hn_5.out).mono ?_
      rintro e w6 ⟨aka6, ava6, aca6, akb6, avb6, acb6, cka6, cva6, cca6, ckb6, cvb6, ccb6, rfl, hda6, hdb6, hb6⟩
      clear q0 q1 q2 q3 q4 q5 q6 q7
      obtain ⟨ma6, mb6, hx6⟩ := boxes2 w6 #[.int .i64 pc.lv, .string pc.lo, .string pc.hi, .bool pc.la, .int .i64 pc.nx, .slice aka6 pc.ks.length cka6, .slice ava6 pc.vs.length cva6, .slice aca6 pc.cs.length cca6] #[.int .i64 pd.lv, .string pd.lo, .string pd.hi, .bool pd.la, .int .i64 pd.nx, .slice akb6 pd.ks.length ckb6, .slice avb6 pd.vs.length cvb6, .slice acb6 pd.cs.length ccb6]
      obtain ⟨W6, hW6⟩ : ∃ W, W = (w6.alloc (.cells #[.int .i64 pc.lv, .string pc.lo, .string pc.hi, .bool pc.la, .int .i64 pc.nx, .slice aka6 pc.ks.length cka6, .slice ava6 pc.vs.length cva6, .slice aca6 pc.cs.length cca6] 26)).alloc (.cells #[.int .i64 pd.lv, .string pd.lo, .string pd.hi, .bool pd.la, .int .i64 pd.nx, .slice akb6 pd.ks.length ckb6, .slice avb6 pd.vs.length cvb6, .slice acb6 pd.cs.length ccb6] 26) := ⟨_, rfl⟩
      rw [← hW6] at ma6 mb6 hx6
      have HX6a := Lib.hid ma6
      have HX6b := Lib.hid mb6
      have HY6a := Lib.hid (hda6.keep hx6)
      have HY6b := Lib.hid (hdb6.keep hx6)
      have HZ6 := Lib.hid (hb6.trans (hx6.mono hb6.size))
      have HW6 := Lib.hid hW6
      have Hn_6 := Lib.hid (Hn_5.out.trans (HZ6.out.mono Hn_5.out.size))
      have HS3_6 := Lib.hid (HS3_5.out.trans (HZ6.out.mono HS3_5.out.size))
      have HS4_6 := Lib.hid (HS4_5.out.trans (HZ6.out.mono HS4_5.out.size))
      have HS5_6 := Lib.hid (HS5.out.trans (HZ6.out.mono HS5.out.size))
      clear hW6 hx6 ma6 mb6 hda6 hdb6 hb6 Hn_5 HS3_5 HS4_5 HS5
      have HS6 : Hid (Below W6.heap.size W6 W6) := Lib.hid (Below.refl _ _)
      go_upto_region 7 with fail
      rw [← HW6.out]
      clear HW6
      obtain ⟨t0, t1, t2, t3, t4, t5, t6, t7⟩ := (HX3.out.below HS3_6.out).cells
      go_wp2_with fail
      refine (HRB.out ko vo co _ (HY3.out.keep HS3_6.out)).mono ?_
      rintro e w7 ⟨aka7, ava7, aca7, akb7, avb7, acb7, cka7, cva7, cca7, ckb7, cvb7, ccb7, rfl, hda7, hdb7, hb7⟩
      clear t0 t1 t2 t3 t4 t5 t6 t7
      obtain ⟨ma7, mb7, hx7⟩ := boxes2 w7 #[.int .i64 pc.lv, .string pc.lo, .string pc.hi, .bool pc.la, .int .i64 pc.nx, .slice aka7 pc.ks.length cka7, .slice ava7 pc.vs.length cva7, .slice aca7 pc.cs.length cca7] #[.int .i64 pd.lv, .string pd.lo, .string pd.hi, .bool pd.la, .int .i64 pd.nx, .slice akb7 pd.ks.length ckb7, .slice avb7 pd.vs.length cvb7, .slice acb7 pd.cs.length ccb7]
      obtain ⟨W7, hW7⟩ : ∃ W, W = (w7.alloc (.cells #[.int .i64 pc.lv, .string pc.lo, .string pc.hi, .bool pc.la, .int .i64 pc.nx, .slice aka7 pc.ks.length cka7, .slice ava7 pc.vs.length cva7, .slice aca7 pc.cs.length cca7] 26)).alloc (.cells #[.int .i64 pd.lv, .string pd.lo, .string pd.hi, .bool pd.la, .int .i64 pd.nx, .slice akb7 pd.ks.length ckb7, .slice avb7 pd.vs.length cvb7, .slice acb7 pd.cs.length ccb7] 26) := ⟨_, rfl⟩
      rw [← hW7] at ma7 mb7 hx7
      have HX7a := Lib.hid ma7
      have HX7b := Lib.hid mb7
      have HY7a := Lib.hid (hda7.keep hx7)
      have HY7b := Lib.hid (hdb7.keep hx7)
      have HZ7 := Lib.hid (hb7.trans (hx7.mono hb7.size))
      have HW7 := Lib.hid hW7
      have Hn_7 := Lib.hid (Hn_6.out.trans (HZ7.out.mono Hn_6.out.size))
      have HS3_7 := Lib.hid (HS3_6.out.trans (HZ7.out.mono HS3_6.out.size))
      have HS4_7 := Lib.hid (HS4_6.out.trans (HZ7.out.mono HS4_6.out.size))
      have HS5_7 := Lib.hid (HS5_6.out.trans (HZ7.out.mono HS5_6.out.size))
      have HS6_7 := Lib.hid (HS6.out.trans (HZ7.out.mono HS6.out.size))
      clear hW7 hx7 ma7 mb7 hda7 hdb7 hb7 Hn_6 HS3_6 HS4_6 HS5_6 HS6
      have HS7 : Hid (Below W7.heap.size W7 W7) := Lib.hid (Below.refl _ _)
      go_upto_region 8 with fail
      rw [← HW7.out]
      clear HW7
      obtain ⟨q0, q1, q2, q3, q4, q5, q6, q7⟩ := (HNB.out.below Hn_7.out).cells
      obtain ⟨t0, t1, t2, t3, t4, t5, t6, t7⟩ := (HX3.out.below HS3_7.out).cells
      go_wp2_with fail
      refine (HSE.out ⟨lv, nx, lo, hi, la, ks, vs, cs⟩ ak av ac ko vo co ck cv cc ks.length vs.length cs.length _ (HND.out.keep Hn_7.out) (HY3.out.keep HS3_7.out)).mono ?_
      rintro e w10 ⟨rfl, hb10⟩
      have Hn_10 := Lib.hid (Hn_7.out.trans (hb10.mono Hn_7.out.size))
      have HS3_10 := Lib.hid (HS3_7.out.trans (hb10.mono HS3_7.out.size))
      have HS4_10 := Lib.hid (HS4_7.out.trans (hb10.mono HS4_7.out.size))
      have HS5_10 := Lib.hid (HS5_7.out.trans (hb10.mono HS5_7.out.size))
      have HS6_10 := Lib.hid (HS6_7.out.trans (hb10.mono HS6_7.out.size))
      have HS7_10 := Lib.hid (HS7.out.trans (hb10.mono HS7.out.size))
      clear hb10 Hn_7 HS3_7 HS4_7 HS5_7 HS6_7 HS7
      clear q0 q1 q2 q3 q4 q5 q6 q7 t0 t1 t2 t3 t4 t5 t6 t7
      obtain ⟨q0, q1, q2, q3, q4, q5, q6, q7⟩ := (HX4a.out.below HS4_10.out).cells
      obtain ⟨t0, t1, t2, t3, t4, t5, t6, t7⟩ := (HX5a.out.below HS5_10.out).cells
      go_wp2_with fail
      refine (HSE.out pa aka4 ava4 aca4 aka5 ava5 aca5 cka4 cva4 cca4 cka5 cva5 cca5 _ (HY4a.out.keep HS4_10.out) (HY5a.out.keep HS5_10.out)).mono ?_
      rintro e w11 ⟨rfl, hb11⟩
      have Hn_11 := Lib.hid (Hn_10.out.trans (hb11.mono Hn_10.out.size))
      have HS3_11 := Lib.hid (HS3_10.out.trans (hb11.mono HS3_10.out.size))
      have HS4_11 := Lib.hid (HS4_10.out.trans (hb11.mono HS4_10.out.size))
      have HS5_11 := Lib.hid (HS5_10.out.trans (hb11.mono HS5_10.out.size))
      have HS6_11 := Lib.hid (HS6_10.out.trans (hb11.mono HS6_10.out.size))
      have HS7_11 := Lib.hid (HS7_10.out.trans (hb11.mono HS7_10.out.size))
      clear hb11 Hn_10 HS3_10 HS4_10 HS5_10 HS6_10 HS7_10
      clear q0 q1 q2 q3 q4 q5 q6 q7 t0 t1 t2 t3 t4 t5 t6 t7
      obtain ⟨q0, q1, q2, q3, q4, q5, q6, q7⟩ := (HX4b.out.below HS4_11.out).cells
      obtain ⟨t0, t1, t2, t3, t4, t5, t6, t7⟩ := (HX5b.out.below HS5_11.out).cells
      go_wp2_with fail
      refine (HSE.out pb akb4 avb4 acb4 akb5 avb5 acb5 ckb4 cvb4 ccb4 ckb5 cvb5 ccb5 _ (HY4b.out.keep HS4_11.out) (HY5b.out.keep HS5_11.out)).mono ?_
      rintro e w12 ⟨rfl, hb12⟩
      have Hn_12 := Lib.hid (Hn_11.out.trans (hb12.mono Hn_11.out.size))
      have HS3_12 := Lib.hid (HS3_11.out.trans (hb12.mono HS3_11.out.size))
      have HS4_12 := Lib.hid (HS4_11.out.trans (hb12.mono HS4_11.out.size))
      have HS5_12 := Lib.hid (HS5_11.out.trans (hb12.mono HS5_11.out.size))
      have HS6_12 := Lib.hid (HS6_11.out.trans (hb12.mono HS6_11.out.size))
      have HS7_12 := Lib.hid (HS7_11.out.trans (hb12.mono HS7_11.out.size))
      clear hb12 Hn_11 HS3_11 HS4_11 HS5_11 HS6_11 HS7_11
      clear q0 q1 q2 q3 q4 q5 q6 q7 t0 t1 t2 t3 t4 t5 t6 t7
      obtain ⟨q0, q1, q2, q3, q4, q5, q6, q7⟩ := (HX6a.out.below HS6_12.out).cells
      obtain ⟨t0, t1, t2, t3, t4, t5, t6, t7⟩ := (HX7a.out.below HS7_12.out).cells
      go_wp2_with fail
      refine (HSE.out pc aka6 ava6 aca6 aka7 ava7 aca7 cka6 cva6 cca6 cka7 cva7 cca7 _ (HY6a.out.keep HS6_12.out) (HY7a.out.keep HS7_12.out)).mono ?_
      rintro e w13 ⟨rfl, hb13⟩
      have Hn_13 := Lib.hid (Hn_12.out.trans (hb13.mono Hn_12.out.size))
      have HS3_13 := Lib.hid (HS3_12.out.trans (hb13.mono HS3_12.out.size))
      have HS4_13 := Lib.hid (HS4_12.out.trans (hb13.mono HS4_12.out.size))
      have HS5_13 := Lib.hid (HS5_12.out.trans (hb13.mono HS5_12.out.size))
      have HS6_13 := Lib.hid (HS6_12.out.trans (hb13.mono HS6_12.out.size))
      have HS7_13 := Lib.hid (HS7_12.out.trans (hb13.mono HS7_12.out.size))
      clear hb13 Hn_12 HS3_12 HS4_12 HS5_12 HS6_12 HS7_12
      clear q0 q1 q2 q3 q4 q5 q6 q7 t0 t1 t2 t3 t4 t5 t6 t7
      obtain ⟨q0, q1, q2, q3, q4, q5, q6, q7⟩ := (HX6b.out.below HS6_13.out).cells
      obtain ⟨t0, t1, t2, t3, t4, t5, t6, t7⟩ := (HX7b.out.below HS7_13.out).cells
      go_wp2_with fail
      refine (HSE.out pd akb6 avb6 acb6 akb7 avb7 acb7 ckb6 cvb6 ccb6 ckb7 cvb7 ccb7 _ (HY6b.out.keep HS6_13.out) (HY7b.out.keep HS7_13.out)).mono ?_
      rintro e w14 ⟨rfl, hb14⟩
      have Hn_14 := Lib.hid (Hn_13.out.trans (hb14.mono Hn_13.out.size))
      have HS3_14 := Lib.hid (HS3_13.out.trans (hb14.mono HS3_13.out.size))
      have HS4_14 := Lib.hid (HS4_13.out.trans (hb14.mono HS4_13.out.size))
      have HS5_14 := Lib.hid (HS5_13.out.trans (hb14.mono HS5_13.out.size))
      have HS6_14 := Lib.hid (HS6_13.out.trans (hb14.mono HS6_13.out.size))
      have HS7_14 := Lib.hid (HS7_13.out.trans (hb14.mono HS7_13.out.size))
      clear hb14 Hn_13 HS3_13 HS4_13 HS5_13 HS6_13 HS7_13
      clear q0 q1 q2 q3 q4 q5 q6 q7 t0 t1 t2 t3 t4 t5 t6 t7
      have HE := Lib.hid (HB.out.trans (Hn_14.out.mono HB.out.size))
      go_wp2_with fail
      refine (HLV.out _).mono ?_
      rintro e wl ⟨rfl, hbl⟩
      have HBL := Lib.hid (HE.out.trans (hbl.mono HE.out.size))
      clear hbl
      go_wp2
      go_ret
      exact ⟨rfl, HBL.out⟩
end Go.Proofs.Ytmkglaghnjnooaa
