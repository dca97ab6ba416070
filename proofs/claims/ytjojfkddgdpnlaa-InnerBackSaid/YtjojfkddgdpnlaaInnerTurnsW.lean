/- The law InnerTurns, walked: an inner node with an entry more, without one, or with another key at one, is just the document's, or there is none; what was handed in stays. Condition: the node's rows are there. -/
import Derived.Test.YtjojfkddgdpnlaaInnerMath
import Derived.Test.YtjojfkddgdpnlaaInnerRefs
import Derived.Test.YtjojfkddgdpnlaaInnerOverW
import Derived.Test.YtjojfkddgdpnlaaNodeClone2
namespace Go.Proofs.Ytjojfkddgdpnlaa
open Go.RowKit

theorem fit_light12 {lo hi : ByteArray} {ks : List ByteArray} {nv nc : Nat} (h : LightP lo hi ks.length nv nc ks) : Fit lo hi ks ks.length nv nc := by
  refine ⟨by have := h.b; omega, by have := h.b; omega, fun x hx => ?_, by have := h.n; omega⟩
  obtain ⟨i, hi, rfl⟩ := List.getElem_of_mem hx
  have := h.k i hi
  rw [nth_eq hi] at this
  omega

theorem place_one {w w' : World} {e : Ending} {n : Nat} {zs : List Int} {v pa : Int} {g : Bool} (hpa : FirstAt n zs v pa) (h : ∃ a, FirstAt n zs v a ∧ e = .returned (.tuple #[.int .i64 (placeOf g a).1, .bool (placeOf g a).2]) ∧ Below w.heap.size w w') : e = .returned (.tuple #[.int .i64 (placeOf g pa).1, .bool (placeOf g pa).2]) ∧ Below w.heap.size w w' := by
  obtain ⟨a, h1, h2, h3⟩ := h
  rw [FirstAt.one h1 hpa] at h2
  exact ⟨h2, h3⟩

set_option maxHeartbeats 8000000 in
set_option maxRecDepth 100000 in
theorem innerTurns_any (lv nx : Int) (lo hi : ByteArray) (la : Bool) (ak av ac : Option Addr) (ck cv cc : Nat) (ks : List ByteArray) (vs : List Nat) (cs : List Int) (low : ByteArray) (kid at_ fan : Int) (w : World) (hN : NdAt w ak av ac ks.length ck vs.length cv cs.length cc ks vs cs) :
    Calls Try.prog 3 #[.agg #[.int .i64 lv, .string lo, .string hi, .bool la, .int .i64 nx, .slice ak ks.length ck, .slice av vs.length cv, .slice ac cs.length cc], .string low, .int .i64 kid, .int .i64 at_, .int .i64 fan] w fun e w' => e = .returned (.bool true) ∧ Below w.heap.size w w' := by
  have HB := Lib.hid (boxed_below w (.cells #[.int .i64 lv, .string lo, .string hi, .bool la, .int .i64 nx, .slice ak ks.length ck, .slice av vs.length cv, .slice ac cs.length cc] 26))
  have HNB := Lib.hid (NB.new w #[.int .i64 lv, .string lo, .string hi, .bool la, .int .i64 nx, .slice ak ks.length ck, .slice av vs.length cv, .slice ac cs.length cc])
  have HND := Lib.hid (hN.keep HB.out)
  obtain ⟨w1, hw1⟩ : ∃ w1, w1 = w.alloc (.cells #[.int .i64 lv, .string lo, .string hi, .bool la, .int .i64 nx, .slice ak ks.length ck, .slice av vs.length cv, .slice ac cs.length cc] 26) := ⟨_, rfl⟩
  rw [← hw1] at HB HNB HND
  have HW1 := Lib.hid hw1
  have HL := Lib.hid (nlight_any lv nx lo hi la ak av ac ks.length ck vs.length cv cs.length cc ks w1 HND.out.k (by have := rd_len hN.v; omega) (by have := rd_len hN.c; omega))
  have HLV := Lib.hid lives12_any
  obtain ⟨q0, q1, q2, q3, q4, q5, q6, q7⟩ := HNB.out.cells
  clear hN hw1
  go_enter Try.func3, Try.ntmps3
  go_wp2_with fail
  rw [← HW1.out]
  refine HL.out.mono ?_
  rintro e w2 ⟨r, rfl, hr, hb2⟩
  have HP := Lib.hid hr
  have Hn := Lib.hid hb2
  clear hr hb2 q0 q1 q2 q3 q4 q5 q6 q7 HL HW1
  obtain ⟨q0, q1, q2, q3, q4, q5, q6, q7⟩ := (HNB.out.below Hn.out).cells
  cases r with
  | false =>
    have HE := Lib.hid (HB.out.trans (Hn.out.mono HB.out.size))
    go_wp2_with fail
    refine (HLV.out _).mono ?_
    rintro e wl ⟨rfl, hbl⟩
    have HBL := Lib.hid (HE.out.trans (hbl.mono HE.out.size))
    clear hbl
    go_wp2
    go_ret
    exact ⟨rfl, HBL.out⟩
  | true =>
    have HLP := Lib.hid (HP.out.1 rfl)
    have HFT := Lib.hid (fit_light12 HLP.out)
    by_cases hk : 100 < low.size
    case pos =>
      have hk2 : (100 : Int) < low.size := by omega
      have HE := Lib.hid (HB.out.trans (Hn.out.mono HB.out.size))
      go_wp2_with fail
      refine (HLV.out _).mono ?_
      rintro e wl ⟨rfl, hbl⟩
      have HBL := Lib.hid (HE.out.trans (hbl.mono HE.out.size))
      clear hbl
      go_wp2
      go_ret
      exact ⟨rfl, HBL.out⟩
    case neg =>
      have hk2 : (low.size : Int) ≤ 100 := by omega
      have hks : low.size ≤ 140737488355328 := by omega
      have HS2 : Hid (ks.length ≤ 200 ∧ vs.length ≤ 200 ∧ cs.length ≤ 200) := Lib.hid (by have := HLP.out.n; omega)
      obtain ⟨b, hb⟩ := bool_or (Nod.PostP ⟨lv, nx, lo, hi, la, ks, vs, cs⟩ low kid fan)
      obtain ⟨c, hc⟩ := bool_or (Nod.DropP ⟨lv, nx, lo, hi, la, ks, vs, cs⟩ at_)
      obtain ⟨d, hd⟩ := bool_or (Nod.TurnP ⟨lv, nx, lo, hi, la, ks, vs, cs⟩ at_ low)
      obtain ⟨g, hg⟩ := bool_or (0 < lv ∧ SoundP lv nx lo hi la ks.length vs.length cs.length ks cs 64)
      obtain ⟨pa, hpa⟩ := first_is cs.length cs kid
      have HCL := Lib.hid (nclone_any lv nx lo hi la ak av ac ks.length ck vs.length cv cs.length cc ks vs cs)
      have HPO := Lib.hid (fun W (h : Below w1.heap.size w1 W) => post_of lv nx lo hi la ak av ac ck cv cc ks vs cs low kid fan b W (HND.out.keep h) HFT.out hks hb)
      have HRP := Lib.hid (fun ko vo co W h => rpost_of lv nx lo hi la ko vo co ks.length vs.length cs.length ks vs cs low kid fan b W h HFT.out hks (hb.trans (Nod.post_iff _ _ _ _)))
      have HDR := Lib.hid (fun W (h : Below w1.heap.size w1 W) => idrop_of lv nx lo hi la ak av ac ck cv cc ks vs cs at_ c W (HND.out.keep h) HFT.out hc)
      have HRD := Lib.hid (fun ko vo co W h => rdrop_of lv nx lo hi la ko vo co ks.length vs.length cs.length ks vs cs at_ c W h HFT.out (hc.trans (Nod.drop_iff _ _)))
      have HTU := Lib.hid (fun W (h : Below w1.heap.size w1 W) => iturn_of lv nx lo hi la ak av ac ck cv cc ks vs cs at_ low d W (HND.out.keep h) HFT.out hks hd)
      have HRT := Lib.hid (fun ko vo co W h => riturn_of lv nx lo hi la ko vo co ks.length vs.length cs.length ks vs cs at_ low d W h HFT.out hks hd)
      have HPL := Lib.hid (fun W (h : Below w1.heap.size w1 W) => (place_of lv nx lo hi la ak av ac ks.length ck vs.length cv cs.length cc ks vs cs kid g W (HND.out.keep h) HFT.out hg).mono (fun e w' h => place_one hpa h))
      have HPR := Lib.hid (fun ko vo co W h => (rplace_of lv nx lo hi la ko vo co ks.length ks.length vs.length vs.length cs.length cs.length ks vs cs kid g W h HFT.out hg).mono (fun e w' h => place_one hpa h))
      have HSE := Lib.hid rsame_eq12
      generalize Nod.or b (Nod.post ⟨lv, nx, lo, hi, la, ks, vs, cs⟩ low kid) = pw at HPO HRP
      generalize Nod.or c (Nod.drop ⟨lv, nx, lo, hi, la, ks, vs, cs⟩ at_.toNat) = pq at HDR HRD
      generalize Nod.or d (Nod.turn ⟨lv, nx, lo, hi, la, ks, vs, cs⟩ at_.toNat low) = pt at HTU HRT
      generalize (placeOf g pa).1 = x1 at HPL HPR
      generalize (placeOf g pa).2 = x2 at HPL HPR
      clear hb hc hd hg hpa hks hk
      go_wp2_with fail
      refine (HCL.out _ (HND.out.keep Hn.out) (by have := HS2.out; omega)).mono ?_
      rintro e w3 ⟨kv, vv, cv2, rfl, hk1, hk2', hk3, hb3⟩
      obtain ⟨ko, rfl⟩ := hk1.open
      obtain ⟨vo, rfl⟩ := hk2'.open
      obtain ⟨co, rfl⟩ := hk3.open
      rw [List.length_map] at hk1 hk2' hk3
      rw [List.length_map, List.length_map, List.length_map]
      have hnd3 : NdAt w3 ko vo co ks.length ks.length vs.length vs.length cs.length cs.length ks vs cs := ⟨hk1.rd (by rw [List.length_map]; have := HS2.out; omega), hk2'.rd (by rw [List.length_map]; have := HS2.out; omega), hk3.rd (by rw [List.length_map]; have := HS2.out; omega)⟩
      clear hk1 hk2' hk3 q0 q1 q2 q3 q4 q5 q6 q7 HCL
      obtain ⟨W3, hW3⟩ : ∃ W, W = w3.alloc (.cells #[.int .i64 lv, .string lo, .string hi, .bool la, .int .i64 nx, .slice ko ks.length ks.length, .slice vo vs.length vs.length, .slice co cs.length cs.length] 26) := ⟨_, rfl⟩
      have hx3 := boxed_below w3 (.cells #[.int .i64 lv, .string lo, .string hi, .bool la, .int .i64 nx, .slice ko ks.length ks.length, .slice vo vs.length vs.length, .slice co cs.length cs.length] 26)
      have HX3 : Hid (NB W3 w3.heap.size #[.int .i64 lv, .string lo, .string hi, .bool la, .int .i64 nx, .slice ko ks.length ks.length, .slice vo vs.length vs.length, .slice co cs.length cs.length]) := Lib.hid (by rw [hW3]; exact NB.new _ _)
      rw [← hW3] at hx3
      have HY3 := Lib.hid (hnd3.keep hx3)
      have HZ3 := Lib.hid (hb3.trans (hx3.mono hb3.size))
      have HW3 := Lib.hid hW3
      have Hn_3 := Lib.hid (Hn.out.trans (HZ3.out.mono Hn.out.size))
      clear hW3 hx3 hnd3 hb3 Hn
      have HS3 : Hid (Below W3.heap.size W3 W3) := Lib.hid (Below.refl _ _)
      go_upto_region 4 with fail
      rw [← HW3.out]
      clear HW3
      obtain ⟨q0, q1, q2, q3, q4, q5, q6, q7⟩ := (HNB.out.below Hn_3.out).cells
      go_wp2_with fail
      refine (HPO.out _ Hn_3.out).mono ?_
      rintro e w4 ⟨ak4, av4, ac4, ck4, cv4, cc4, rfl, hnd4, hb4, _⟩
      clear q0 q1 q2 q3 q4 q5 q6 q7
      obtain ⟨W4, hW4⟩ : ∃ W, W = w4.alloc (.cells #[.int .i64 pw.lv, .string pw.lo, .string pw.hi, .bool pw.la, .int .i64 pw.nx, .slice ak4 pw.ks.length ck4, .slice av4 pw.vs.length cv4, .slice ac4 pw.cs.length cc4] 26) := ⟨_, rfl⟩
      have hx4 := boxed_below w4 (.cells #[.int .i64 pw.lv, .string pw.lo, .string pw.hi, .bool pw.la, .int .i64 pw.nx, .slice ak4 pw.ks.length ck4, .slice av4 pw.vs.length cv4, .slice ac4 pw.cs.length cc4] 26)
      have HX4 : Hid (NB W4 w4.heap.size #[.int .i64 pw.lv, .string pw.lo, .string pw.hi, .bool pw.la, .int .i64 pw.nx, .slice ak4 pw.ks.length ck4, .slice av4 pw.vs.length cv4, .slice ac4 pw.cs.length cc4]) := Lib.hid (by rw [hW4]; exact NB.new _ _)
      rw [← hW4] at hx4
      have HY4 := Lib.hid (hnd4.keep hx4)
      have HZ4 := Lib.hid (hb4.trans (hx4.mono hb4.size))
      have HW4 := Lib.hid hW4
      have Hn_4 := Lib.hid (Hn_3.out.trans (HZ4.out.mono Hn_3.out.size))
      have HS3_4 := Lib.hid (HS3.out.trans (HZ4.out.mono HS3.out.size))
      clear hW4 hx4 hnd4 hb4 Hn_3 HS3
      have HS4 : Hid (Below W4.heap.size W4 W4) := Lib.hid (Below.refl _ _)
      go_upto_region 5 with fail
      rw [← HW4.out]
      clear HW4
      obtain ⟨t0, t1, t2, t3, t4, t5, t6, t7⟩ := (HX3.out.below HS3_4.out).cells
      go_wp2_with fail
      refine (HRP.out ko vo co _ (HY3.out.keep HS3_4.out)).mono ?_
      rintro e w5 ⟨ak5, av5, ac5, ck5, cv5, cc5, rfl, hnd5, hb5⟩
      clear t0 t1 t2 t3 t4 t5 t6 t7
      obtain ⟨W5, hW5⟩ : ∃ W, W = w5.alloc (.cells #[.int .i64 pw.lv, .string pw.lo, .string pw.hi, .bool pw.la, .int .i64 pw.nx, .slice ak5 pw.ks.length ck5, .slice av5 pw.vs.length cv5, .slice ac5 pw.cs.length cc5] 26) := ⟨_, rfl⟩
      have hx5 := boxed_below w5 (.cells #[.int .i64 pw.lv, .string pw.lo, .string pw.hi, .bool pw.la, .int .i64 pw.nx, .slice ak5 pw.ks.length ck5, .slice av5 pw.vs.length cv5, .slice ac5 pw.cs.length cc5] 26)
      have HX5 : Hid (NB W5 w5.heap.size #[.int .i64 pw.lv, .string pw.lo, .string pw.hi, .bool pw.la, .int .i64 pw.nx, .slice ak5 pw.ks.length ck5, .slice av5 pw.vs.length cv5, .slice ac5 pw.cs.length cc5]) := Lib.hid (by rw [hW5]; exact NB.new _ _)
      rw [← hW5] at hx5
      have HY5 := Lib.hid (hnd5.keep hx5)
      have HZ5 := Lib.hid (hb5.trans (hx5.mono hb5.size))
      have HW5 := Lib.hid hW5
      have Hn_5 := Lib.hid (Hn_4.out.trans (HZ5.out.mono Hn_4.out.size))
      have HS3_5 := Lib.hid (HS3_4.out.trans (HZ5.out.mono HS3_4.out.size))
      have HS4_5 := Lib.hid (HS4.out.trans (HZ5.out.mono HS4.out.size))
      clear hW5 hx5 hnd5 hb5 Hn_4 HS3_4 HS4
      have HS5 : Hid (Below W5.heap.size W5 W5) := Lib.hid (Below.refl _ _)
      go_upto_region 6 with fail
      rw [← HW5.out]
      clear HW5
      obtain ⟨q0, q1, q2, q3, q4, q5, q6, q7⟩ := (HNB.out.below Hn_5.out).cells
      go_wp2_with fail
      refine (HDR.out _ Hn_5.out).mono ?_
      rintro e w6 ⟨ak6, av6, ac6, ck6, cv6, cc6, rfl, hnd6, hb6, _⟩
      clear q0 q1 q2 q3 q4 q5 q6 q7
      obtain ⟨W6, hW6⟩ : ∃ W, W = w6.alloc (.cells #[.int .i64 pq.lv, .string pq.lo, .string pq.hi, .bool pq.la, .int .i64 pq.nx, .slice ak6 pq.ks.length ck6, .slice av6 pq.vs.length cv6, .slice ac6 pq.cs.length cc6] 26) := ⟨_, rfl⟩
      have hx6 := boxed_below w6 (.cells #[.int .i64 pq.lv, .string pq.lo, .string pq.hi, .bool pq.la, .int .i64 pq.nx, .slice ak6 pq.ks.length ck6, .slice av6 pq.vs.length cv6, .slice ac6 pq.cs.length cc6] 26)
      have HX6 : Hid (NB W6 w6.heap.size #[.int .i64 pq.lv, .string pq.lo, .string pq.hi, .bool pq.la, .int .i64 pq.nx, .slice ak6 pq.ks.length ck6, .slice av6 pq.vs.length cv6, .slice ac6 pq.cs.length cc6]) := Lib.hid (by rw [hW6]; exact NB.new _ _)
      rw [← hW6] at hx6
      have HY6 := Lib.hid (hnd6.keep hx6)
      have HZ6 := Lib.hid (hb6.trans (hx6.mono hb6.size))
      have HW6 := Lib.hid hW6
      have Hn_6 := Lib.hid (Hn_5.out.trans (HZ6.out.mono Hn_5.out.size))
      have HS3_6 := Lib.hid (HS3_5.out.trans (HZ6.out.mono HS3_5.out.size))
      have HS4_6 := Lib.hid (HS4_5.out.trans (HZ6.out.mono HS4_5.out.size))
      have HS5_6 := Lib.hid (HS5.out.trans (HZ6.out.mono HS5.out.size))
      clear hW6 hx6 hnd6 hb6 Hn_5 HS3_5 HS4_5 HS5
      have HS6 : Hid (Below W6.heap.size W6 W6) := Lib.hid (Below.refl _ _)
      go_upto_region 7 with fail
      rw [← HW6.out]
      clear HW6
      obtain ⟨t0, t1, t2, t3, t4, t5, t6, t7⟩ := (HX3.out.below HS3_6.out).cells
      go_wp2_with fail
      refine (HRD.out ko vo co _ (HY3.out.keep HS3_6.out)).mono ?_
      rintro e w7 ⟨ak7, av7, ac7, ck7, cv7, cc7, rfl, hnd7, hb7⟩
      clear t0 t1 t2 t3 t4 t5 t6 t7
      obtain ⟨W7, hW7⟩ : ∃ W, W = w7.alloc (.cells #[.int .i64 pq.lv, .string pq.lo, .string pq.hi, .bool pq.la, .int .i64 pq.nx, .slice ak7 pq.ks.length ck7, .slice av7 pq.vs.length cv7, .slice ac7 pq.cs.length cc7] 26) := ⟨_, rfl⟩
      have hx7 := boxed_below w7 (.cells #[.int .i64 pq.lv, .string pq.lo, .string pq.hi, .bool pq.la, .int .i64 pq.nx, .slice ak7 pq.ks.length ck7, .slice av7 pq.vs.length cv7, .slice ac7 pq.cs.length cc7] 26)
      have HX7 : Hid (NB W7 w7.heap.size #[.int .i64 pq.lv, .string pq.lo, .string pq.hi, .bool pq.la, .int .i64 pq.nx, .slice ak7 pq.ks.length ck7, .slice av7 pq.vs.length cv7, .slice ac7 pq.cs.length cc7]) := Lib.hid (by rw [hW7]; exact NB.new _ _)
      rw [← hW7] at hx7
      have HY7 := Lib.hid (hnd7.keep hx7)
      have HZ7 := Lib.hid (hb7.trans (hx7.mono hb7.size))
      have HW7 := Lib.hid hW7
      have Hn_7 := Lib.hid (Hn_6.out.trans (HZ7.out.mono Hn_6.out.size))
      have HS3_7 := Lib.hid (HS3_6.out.trans (HZ7.out.mono HS3_6.out.size))
      have HS4_7 := Lib.hid (HS4_6.out.trans (HZ7.out.mono HS4_6.out.size))
      have HS5_7 := Lib.hid (HS5_6.out.trans (HZ7.out.mono HS5_6.out.size))
      have HS6_7 := Lib.hid (HS6.out.trans (HZ7.out.mono HS6.out.size))
      clear hW7 hx7 hnd7 hb7 Hn_6 HS3_6 HS4_6 HS5_6 HS6
      have HS7 : Hid (Below W7.heap.size W7 W7) := Lib.hid (Below.refl _ _)
      go_upto_region 8 with fail
      rw [← HW7.out]
      clear HW7
      obtain ⟨q0, q1, q2, q3, q4, q5, q6, q7⟩ := (HNB.out.below Hn_7.out).cells
      go_wp2_with fail
      refine (HTU.out _ Hn_7.out).mono ?_
      rintro e w8 ⟨ak8, av8, ac8, ck8, cv8, cc8, rfl, hnd8, hb8, _⟩
      clear q0 q1 q2 q3 q4 q5 q6 q7
      obtain ⟨W8, hW8⟩ : ∃ W, W = w8.alloc (.cells #[.int .i64 pt.lv, .string pt.lo, .string pt.hi, .bool pt.la, .int .i64 pt.nx, .slice ak8 pt.ks.length ck8, .slice av8 pt.vs.length cv8, .slice ac8 pt.cs.length cc8] 26) := ⟨_, rfl⟩
      have hx8 := boxed_below w8 (.cells #[.int .i64 pt.lv, .string pt.lo, .string pt.hi, .bool pt.la, .int .i64 pt.nx, .slice ak8 pt.ks.length ck8, .slice av8 pt.vs.length cv8, .slice ac8 pt.cs.length cc8] 26)
      have HX8 : Hid (NB W8 w8.heap.size #[.int .i64 pt.lv, .string pt.lo, .string pt.hi, .bool pt.la, .int .i64 pt.nx, .slice ak8 pt.ks.length ck8, .slice av8 pt.vs.length cv8, .slice ac8 pt.cs.length cc8]) := Lib.hid (by rw [hW8]; exact NB.new _ _)
      rw [← hW8] at hx8
      have HY8 := Lib.hid (hnd8.keep hx8)
      have HZ8 := Lib.hid (hb8.trans (hx8.mono hb8.size))
      have HW8 := Lib.hid hW8
      have Hn_8 := Lib.hid (Hn_7.out.trans (HZ8.out.mono Hn_7.out.size))
      have HS3_8 := Lib.hid (HS3_7.out.trans (HZ8.out.mono HS3_7.out.size))
      have HS4_8 := Lib.hid (HS4_7.out.trans (HZ8.out.mono HS4_7.out.size))
      have HS5_8 := Lib.hid (HS5_7.out.trans (HZ8.out.mono HS5_7.out.size))
      have HS6_8 := Lib.hid (HS6_7.out.trans (HZ8.out.mono HS6_7.out.size))
      have HS7_8 := Lib.hid (HS7.out.trans (HZ8.out.mono HS7.out.size))
      clear hW8 hx8 hnd8 hb8 Hn_7 HS3_7 HS4_7 HS5_7 HS6_7 HS7
      have HS8 : Hid (Below W8.heap.size W8 W8) := Lib.hid (Below.refl _ _)
      go_upto_region 9 with fail
      rw [← HW8.out]
      clear HW8
      obtain ⟨t0, t1, t2, t3, t4, t5, t6, t7⟩ := (HX3.out.below HS3_8.out).cells
      go_wp2_with fail
      refine (HRT.out ko vo co _ (HY3.out.keep HS3_8.out)).mono ?_
      rintro e w9 ⟨ak9, av9, ac9, ck9, cv9, cc9, rfl, hnd9, hb9⟩
      clear t0 t1 t2 t3 t4 t5 t6 t7
      obtain ⟨W9, hW9⟩ : ∃ W, W = w9.alloc (.cells #[.int .i64 pt.lv, .string pt.lo, .string pt.hi, .bool pt.la, .int .i64 pt.nx, .slice ak9 pt.ks.length ck9, .slice av9 pt.vs.length cv9, .slice ac9 pt.cs.length cc9] 26) := ⟨_, rfl⟩
      have hx9 := boxed_below w9 (.cells #[.int .i64 pt.lv, .string pt.lo, .string pt.hi, .bool pt.la, .int .i64 pt.nx, .slice ak9 pt.ks.length ck9, .slice av9 pt.vs.length cv9, .slice ac9 pt.cs.length cc9] 26)
      have HX9 : Hid (NB W9 w9.heap.size #[.int .i64 pt.lv, .string pt.lo, .string pt.hi, .bool pt.la, .int .i64 pt.nx, .slice ak9 pt.ks.length ck9, .slice av9 pt.vs.length cv9, .slice ac9 pt.cs.length cc9]) := Lib.hid (by rw [hW9]; exact NB.new _ _)
      rw [← hW9] at hx9
      have HY9 := Lib.hid (hnd9.keep hx9)
      have HZ9 := Lib.hid (hb9.trans (hx9.mono hb9.size))
      have HW9 := Lib.hid hW9
      have Hn_9 := Lib.hid (Hn_8.out.trans (HZ9.out.mono Hn_8.out.size))
      have HS3_9 := Lib.hid (HS3_8.out.trans (HZ9.out.mono HS3_8.out.size))
      have HS4_9 := Lib.hid (HS4_8.out.trans (HZ9.out.mono HS4_8.out.size))
      have HS5_9 := Lib.hid (HS5_8.out.trans (HZ9.out.mono HS5_8.out.size))
      have HS6_9 := Lib.hid (HS6_8.out.trans (HZ9.out.mono HS6_8.out.size))
      have HS7_9 := Lib.hid (HS7_8.out.trans (HZ9.out.mono HS7_8.out.size))
      have HS8_9 := Lib.hid (HS8.out.trans (HZ9.out.mono HS8.out.size))
      clear hW9 hx9 hnd9 hb9 Hn_8 HS3_8 HS4_8 HS5_8 HS6_8 HS7_8 HS8
      have HS9 : Hid (Below W9.heap.size W9 W9) := Lib.hid (Below.refl _ _)
      go_upto_region 10 with fail
      rw [← HW9.out]
      clear HW9
      obtain ⟨q0, q1, q2, q3, q4, q5, q6, q7⟩ := (HNB.out.below Hn_9.out).cells
      go_wp2_with fail
      refine (HPL.out _ Hn_9.out).mono ?_
      rintro e w10 ⟨rfl, hb10⟩
      have Hn_10 := Lib.hid (Hn_9.out.trans (hb10.mono Hn_9.out.size))
      have HS3_10 := Lib.hid (HS3_9.out.trans (hb10.mono HS3_9.out.size))
      have HS4_10 := Lib.hid (HS4_9.out.trans (hb10.mono HS4_9.out.size))
      have HS5_10 := Lib.hid (HS5_9.out.trans (hb10.mono HS5_9.out.size))
      have HS6_10 := Lib.hid (HS6_9.out.trans (hb10.mono HS6_9.out.size))
      have HS7_10 := Lib.hid (HS7_9.out.trans (hb10.mono HS7_9.out.size))
      have HS8_10 := Lib.hid (HS8_9.out.trans (hb10.mono HS8_9.out.size))
      have HS9_10 := Lib.hid (HS9.out.trans (hb10.mono HS9.out.size))
      clear hb10 Hn_9 HS3_9 HS4_9 HS5_9 HS6_9 HS7_9 HS8_9 HS9
      clear q0 q1 q2 q3 q4 q5 q6 q7
      obtain ⟨t0, t1, t2, t3, t4, t5, t6, t7⟩ := (HX3.out.below HS3_10.out).cells
      go_wp2_with fail
      refine (HPR.out ko vo co _ (HY3.out.keep HS3_10.out)).mono ?_
      rintro e w11 ⟨rfl, hb11⟩
      have Hn_11 := Lib.hid (Hn_10.out.trans (hb11.mono Hn_10.out.size))
      have HS3_11 := Lib.hid (HS3_10.out.trans (hb11.mono HS3_10.out.size))
      have HS4_11 := Lib.hid (HS4_10.out.trans (hb11.mono HS4_10.out.size))
      have HS5_11 := Lib.hid (HS5_10.out.trans (hb11.mono HS5_10.out.size))
      have HS6_11 := Lib.hid (HS6_10.out.trans (hb11.mono HS6_10.out.size))
      have HS7_11 := Lib.hid (HS7_10.out.trans (hb11.mono HS7_10.out.size))
      have HS8_11 := Lib.hid (HS8_10.out.trans (hb11.mono HS8_10.out.size))
      have HS9_11 := Lib.hid (HS9_10.out.trans (hb11.mono HS9_10.out.size))
      clear hb11 Hn_10 HS3_10 HS4_10 HS5_10 HS6_10 HS7_10 HS8_10 HS9_10
      clear t0 t1 t2 t3 t4 t5 t6 t7
      obtain ⟨q0, q1, q2, q3, q4, q5, q6, q7⟩ := (HX4.out.below HS4_11.out).cells
      obtain ⟨t0, t1, t2, t3, t4, t5, t6, t7⟩ := (HX5.out.below HS5_11.out).cells
      go_wp2_with fail
      refine (HSE.out pw ak4 av4 ac4 ak5 av5 ac5 ck4 cv4 cc4 ck5 cv5 cc5 _ (HY4.out.keep HS4_11.out) (HY5.out.keep HS5_11.out)).mono ?_
      rintro e w12 ⟨rfl, hb12⟩
      have Hn_12 := Lib.hid (Hn_11.out.trans (hb12.mono Hn_11.out.size))
      have HS3_12 := Lib.hid (HS3_11.out.trans (hb12.mono HS3_11.out.size))
      have HS4_12 := Lib.hid (HS4_11.out.trans (hb12.mono HS4_11.out.size))
      have HS5_12 := Lib.hid (HS5_11.out.trans (hb12.mono HS5_11.out.size))
      have HS6_12 := Lib.hid (HS6_11.out.trans (hb12.mono HS6_11.out.size))
      have HS7_12 := Lib.hid (HS7_11.out.trans (hb12.mono HS7_11.out.size))
      have HS8_12 := Lib.hid (HS8_11.out.trans (hb12.mono HS8_11.out.size))
      have HS9_12 := Lib.hid (HS9_11.out.trans (hb12.mono HS9_11.out.size))
      clear hb12 Hn_11 HS3_11 HS4_11 HS5_11 HS6_11 HS7_11 HS8_11 HS9_11
      clear q0 q1 q2 q3 q4 q5 q6 q7
      clear t0 t1 t2 t3 t4 t5 t6 t7
      obtain ⟨q0, q1, q2, q3, q4, q5, q6, q7⟩ := (HX6.out.below HS6_12.out).cells
      obtain ⟨t0, t1, t2, t3, t4, t5, t6, t7⟩ := (HX7.out.below HS7_12.out).cells
      go_wp2_with fail
      refine (HSE.out pq ak6 av6 ac6 ak7 av7 ac7 ck6 cv6 cc6 ck7 cv7 cc7 _ (HY6.out.keep HS6_12.out) (HY7.out.keep HS7_12.out)).mono ?_
      rintro e w13 ⟨rfl, hb13⟩
      have Hn_13 := Lib.hid (Hn_12.out.trans (hb13.mono Hn_12.out.size))
      have HS3_13 := Lib.hid (HS3_12.out.trans (hb13.mono HS3_12.out.size))
      have HS4_13 := Lib.hid (HS4_12.out.trans (hb13.mono HS4_12.out.size))
      have HS5_13 := Lib.hid (HS5_12.out.trans (hb13.mono HS5_12.out.size))
      have HS6_13 := Lib.hid (HS6_12.out.trans (hb13.mono HS6_12.out.size))
      have HS7_13 := Lib.hid (HS7_12.out.trans (hb13.mono HS7_12.out.size))
      have HS8_13 := Lib.hid (HS8_12.out.trans (hb13.mono HS8_12.out.size))
      have HS9_13 := Lib.hid (HS9_12.out.trans (hb13.mono HS9_12.out.size))
      clear hb13 Hn_12 HS3_12 HS4_12 HS5_12 HS6_12 HS7_12 HS8_12 HS9_12
      clear q0 q1 q2 q3 q4 q5 q6 q7
      clear t0 t1 t2 t3 t4 t5 t6 t7
      obtain ⟨q0, q1, q2, q3, q4, q5, q6, q7⟩ := (HX8.out.below HS8_13.out).cells
      obtain ⟨t0, t1, t2, t3, t4, t5, t6, t7⟩ := (HX9.out.below HS9_13.out).cells
      go_wp2_with fail
      refine (HSE.out pt ak8 av8 ac8 ak9 av9 ac9 ck8 cv8 cc8 ck9 cv9 cc9 _ (HY8.out.keep HS8_13.out) (HY9.out.keep HS9_13.out)).mono ?_
      rintro e w14 ⟨rfl, hb14⟩
      have Hn_14 := Lib.hid (Hn_13.out.trans (hb14.mono Hn_13.out.size))
      have HS3_14 := Lib.hid (HS3_13.out.trans (hb14.mono HS3_13.out.size))
      have HS4_14 := Lib.hid (HS4_13.out.trans (hb14.mono HS4_13.out.size))
      have HS5_14 := Lib.hid (HS5_13.out.trans (hb14.mono HS5_13.out.size))
      have HS6_14 := Lib.hid (HS6_13.out.trans (hb14.mono HS6_13.out.size))
      have HS7_14 := Lib.hid (HS7_13.out.trans (hb14.mono HS7_13.out.size))
      have HS8_14 := Lib.hid (HS8_13.out.trans (hb14.mono HS8_13.out.size))
      have HS9_14 := Lib.hid (HS9_13.out.trans (hb14.mono HS9_13.out.size))
      clear hb14 Hn_13 HS3_13 HS4_13 HS5_13 HS6_13 HS7_13 HS8_13 HS9_13
      clear q0 q1 q2 q3 q4 q5 q6 q7
      clear t0 t1 t2 t3 t4 t5 t6 t7
      obtain ⟨q0, q1, q2, q3, q4, q5, q6, q7⟩ := (HNB.out.below Hn_14.out).cells
      obtain ⟨t0, t1, t2, t3, t4, t5, t6, t7⟩ := (HX3.out.below HS3_14.out).cells
      go_wp2_with fail
      refine (HSE.out ⟨lv, nx, lo, hi, la, ks, vs, cs⟩ ak av ac ko vo co ck cv cc ks.length vs.length cs.length _ (HND.out.keep Hn_14.out) (HY3.out.keep HS3_14.out)).mono ?_
      rintro e w15 ⟨rfl, hb15⟩
      have Hn_15 := Lib.hid (Hn_14.out.trans (hb15.mono Hn_14.out.size))
      have HS3_15 := Lib.hid (HS3_14.out.trans (hb15.mono HS3_14.out.size))
      have HS4_15 := Lib.hid (HS4_14.out.trans (hb15.mono HS4_14.out.size))
      have HS5_15 := Lib.hid (HS5_14.out.trans (hb15.mono HS5_14.out.size))
      have HS6_15 := Lib.hid (HS6_14.out.trans (hb15.mono HS6_14.out.size))
      have HS7_15 := Lib.hid (HS7_14.out.trans (hb15.mono HS7_14.out.size))
      have HS8_15 := Lib.hid (HS8_14.out.trans (hb15.mono HS8_14.out.size))
      have HS9_15 := Lib.hid (HS9_14.out.trans (hb15.mono HS9_14.out.size))
      clear hb15 Hn_14 HS3_14 HS4_14 HS5_14 HS6_14 HS7_14 HS8_14 HS9_14
      clear q0 q1 q2 q3 q4 q5 q6 q7
      clear t0 t1 t2 t3 t4 t5 t6 t7
      have HE := Lib.hid (HB.out.trans (Hn_15.out.mono HB.out.size))
      go_wp2_with fail
      refine (HLV.out _).mono ?_
      rintro e wl ⟨rfl, hbl⟩
      have HBL := Lib.hid (HE.out.trans (hbl.mono HE.out.size))
      clear hbl
      go_wp2
      go_ret
      exact ⟨rfl, HBL.out⟩
end Go.Proofs.Ytjojfkddgdpnlaa
