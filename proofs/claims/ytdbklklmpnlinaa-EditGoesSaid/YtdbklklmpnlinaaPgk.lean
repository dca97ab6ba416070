/- The law EditGoes. No condition. -/
import Derived.Test.YtdbklklmpnlinaaPge
import Derived.Test.YtdbklklmpnlinaaPgb
import Derived.Test.YtdbklklmpnlinaaPga
import Derived.Test.YtdbklklmpnlinaaPgi
import Derived.Test.YtdbklklmpnlinaaPgj
import Derived.Test.YtdbklklmpnlinaaNodeRSame
import Derived.Test.YtdbklklmpnlinaaNods
import Derived.WalkMore
namespace Go.Proofs.Ytdbklklmpnlinaa
open Go.RowKit Go.Maps

theorem nodOk_e {ks : List Kn} (h : ∀ kn ∈ ks, WfE kn) (hl : LightK ks) : ∀ kn ∈ ks, NodOk kn.n := fun kn hm => by
  have h1 := hl.1 kn hm
  have h2 := h kn hm
  refine ⟨by have := h1.b; omega, by have := h1.b; omega, fun x hx => ?_, by have := h1.n; omega, by have := h1.n; omega, by have := h1.n; omega, h2.nx, fun j hj => ?_⟩
  · obtain ⟨i, hi, rfl⟩ := List.mem_iff_getElem.1 hx
    have := h1.k i hi
    rw [nth_eq hi] at this
    omega
  · rw [ni_eq hj]
    exact h2.cs _ (List.getElem_mem hj)
/-- How a row of the call's own lies. -/
theorem ksr_form {P : Value → Value → Value → Kn → Prop} {w : World} {B n c : Nat} {ao : Option Addr} {ks : List Kn} (h : KsR P w B (.slice ao n c) ks) : (ao = none → n = 0 ∧ c = 0) ∧ (∀ a, ao = some a → ∃ g o, a = ⟨g, o, none⟩) ∧ ∀ g o, ao = some ⟨g, o, none⟩ → g < w.heap.size := by
  obtain ⟨ls, _, h2⟩ := h
  rcases h2.2 with ⟨e, _⟩ | ⟨g, cap, cur, e, _, hg, _⟩
  · injection e with e1 e2 e3
    subst e1 e2 e3
    exact ⟨fun _ => ⟨rfl, rfl⟩, (fun a e => by cases e), (fun g o e => by cases e)⟩
  · injection e with e1 e2 e3
    subst e1
    refine ⟨(fun e => by cases e), fun a e => ?_, fun g' o e => ?_⟩
    · injection e with e
      exact ⟨g, 0, e.symm⟩
    · injection e with e
      injection e with e _ _
      rw [← e]
      exact lt_of_block hg
/-- What an edit tells reads as a node. -/
theorem eat_nd {w : World} {B : Nat} {cs : List Ch} {ks : List Kn} {c k m k' m' : Int} {n : Nod} {kv vv cv : Value} {r : Bool} (h : EAtIs w B cs ks c k m n kv vv cv r k' m') :
    ∃ (ak : Option Addr) (ck : Nat) (av : Option Addr) (cw : Nat) (ac : Option Addr) (cn : Nat), kv = .slice ak n.ks.length ck ∧ vv = .slice av n.vs.length cw ∧ cv = .slice ac n.cs.length cn ∧ NdAt w ak av ac n.ks.length ck n.vs.length cw n.cs.length cn n.ks n.vs n.cs := by
  have ofO : NdO w B kv vv cv n → ∃ (ak : Option Addr) (ck : Nat) (av : Option Addr) (cw : Nat) (ac : Option Addr) (cn : Nat), kv = .slice ak n.ks.length ck ∧ vv = .slice av n.vs.length cw ∧ cv = .slice ac n.cs.length cn ∧ NdAt w ak av ac n.ks.length ck n.vs.length cw n.cs.length cn n.ks n.vs n.cs := by
    intro hn
    obtain ⟨a1, e1⟩ := hn.k.open
    obtain ⟨a2, e2⟩ := hn.v.open
    obtain ⟨a3, e3⟩ := hn.c.open
    rw [List.length_map] at e1 e2 e3
    subst e1 e2 e3
    exact ⟨_, _, _, _, _, _, rfl, rfl, rfl, hn.at_.2.2.2.2.2.2⟩
  rcases h with ⟨j, _, _, _, _, _, _, hn⟩ | ⟨_, y, rfl, h⟩
  · exact ofO hn
  · rcases h with ⟨_, _, _, _, hv⟩ | ⟨_, _, rfl, rfl, rfl, rfl, _⟩
    · obtain ⟨ak, av, ac, ck, cv', cc, e, hN⟩ := hv.v
      unfold Kn.val at e
      injection e with e
      injection e with e
      simp only [List.cons.injEq, and_true, true_and] at e
      obtain ⟨e1, e2, e3⟩ := e
      exact ⟨ak, ck, av, cv', ac, cc, e1, e2, e3, hN⟩
    · exact ofO (NdO.zero w B)
/-- Between two acts. -/
def EGS (wB wr : World) (B E A b N : Nat) (sv : Value) (ks : List Kn) (ss : List (Int × Int)) : Prop :=
  ∃ (ao : Option Addr) (nc cc : Nat) (tv : Value) (k m : Int) (cs : List Ch) (ts : List (Int × Int)), ES wr B E A b (.slice ao nc cc) tv sv N ks ss k m cs ts ∧ Below wB.heap.size wB wr ∧ GoodCh (cellsK ks ss) cs ∧ cs.length ≤ 46 ∧ ts = ss.take ts.length ∧ ts.length ≤ ss.length
/-- Cells so far. -/
structure C1 (w wr : World) (xo : Option Addr) (xn xc : Nat) (l : List Kn) : Prop where
  row : KsR (PV w) wr w.heap.size (.slice xo xn xc) l
  be : Below w.heap.size w wr
  ap : Apart9 l
/-- A row whose block stands. -/
theorem ksat_turn {P Q : Value → Value → Value → Kn → Prop} {S : Nat → Prop} {w w' : World} {ao : Option Addr} {n c : Nat} {ks : List Kn} (h : KsAt P w (.slice ao n c) ks) (ht : Turn S w w') (hg : ∀ a, ao = some a → ∃ g, a = ⟨g, 0, none⟩ ∧ ¬ S g) (hPQ : ∀ x y z kn, P x y z kn → Q x y z kn) : KsAt Q w' (.slice ao n c) ks := by
  obtain ⟨ao', c', e, q1, q2, q3⟩ := h
  injection e with e1 e2 e3
  refine ⟨ao, c, by rw [e2], by omega, by omega, fun hp => ?_⟩
  obtain ⟨g, o, e4, hc⟩ := q3 hp
  rw [← e1] at e4
  obtain ⟨g', e5, hn⟩ := hg _ e4
  injection e5 with e5 _ _
  rw [← e5] at hn
  refine ⟨g, o, e4, fun j hj => ?_⟩
  obtain ⟨l, hl, hcc⟩ := hc j hj
  refine ⟨l, hl.mono (fun x y z => hPQ x y z _), fun i hi => ?_⟩
  have hlt : g < w.heap.size := by
    obtain ⟨x, hx⟩ : ∃ x, l[i]? = some x := ⟨_, List.getElem?_eq_getElem (by rw [hl.len]; exact hi)⟩
    exact World.block_lt_of_cell? w _ ((hcc i hi).trans hx)
  rw [← hcc i hi]
  have hb := ht.block g hlt hn
  simp only [World.cell?, hb]
/-- Between two cells that are asked for. -/
structure LS (w wB wr : World) (B E A b N : Nat) (cv tv sv : Value) (ks : List Kn) (ss : List (Int × Int)) (cs : List Ch) (ts : List (Int × Int)) (oo : Option Addr) (xn oc : Nat) (L : List Kn) : Prop where
  es : ∃ k m, ES wr B E A b cv tv sv N ks ss k m cs ts
  be : Below wB.heap.size wB wr
  at_ : KsAt (PX w wr) wr (.slice oo xn oc) L
  ap : ∀ a, oo = some a → ∃ g, a = ⟨g, 0, none⟩ ∧ ¬ VS A b sv g
theorem LS.keep {w wB wr w' : World} {B E A b N : Nat} {cv tv sv : Value} {ks : List Kn} {ss : List (Int × Int)} {cs : List Ch} {ts : List (Int × Int)} {oo : Option Addr} {xn oc : Nat} {L : List Kn} (h : LS w wB wr B E A b N cv tv sv ks ss cs ts oo xn oc L) (hb : Below wr.heap.size wr w') : LS w wB w' B E A b N cv tv sv ks ss cs ts oo xn oc L := by
  obtain ⟨k, m, hes⟩ := h.es
  exact ⟨⟨k, m, hes.keep hb⟩, h.be.trans (hb.mono h.be.size), ksat_turn h.at_ (Turn.of (S := VS A b sv) hb) h.ap (fun _ _ _ _ hp => hp.keep hb), h.ap⟩
theorem LS.turn {w wB wr w' : World} {B E A b N : Nat} {cv tv sv : Value} {ks : List Kn} {ss : List (Int × Int)} {cs : List Ch} {ts : List (Int × Int)} {oo : Option Addr} {xn oc : Nat} {L : List Kn} {k m k' m' : Int} (h : LS w wB wr B E A b N cv tv sv ks ss cs ts oo xn oc L) (hes : ES wr B E A b cv tv sv N ks ss k m cs ts) (hB : wB.heap.size ≤ B) (hes' : ES w' B E A b cv tv sv N ks ss k' m' cs ts) (ht : Turn (VS A b sv) wr w') : LS w wB w' B E A b N cv tv sv ks ss cs ts oo xn oc L :=
  ⟨⟨k', m', hes'⟩, h.be.trans (ht.below (fun z hz => Nat.le_trans hB (hes.fv.base z hz)) h.be.size), ksat_turn h.at_ ht h.ap (fun _ _ _ _ hp => hp.turn hes.fv.off ht), h.ap⟩
set_option maxHeartbeats 16000000 in
set_option maxRecDepth 100000 in
theorem editGoes_any (ao so eo : Option Addr) (n c sn sc en ec : Nat) (ks : List Kn) (ss : List (Int × Int)) (es : List Ea) (w : World) (h : KsAt (PV w) w (.slice ao n c) ks) (hwk : ∀ kn ∈ ks, WfE kn) (hs : SpAt w (.slice so sn sc) ss) (hws : ∀ p ∈ ss, (Lit.int .i64 p.1).wf = true) (ha : EsAt (PA w) w (.slice eo en ec) es) (hwa : ∀ a ∈ es, (Lit.int .i64 a.c).wf = true) :
    Calls Try.prog 4 #[.slice ao n c, .slice so sn sc, .slice eo en ec] w fun e w' => e = .returned (.bool true) ∧ Below w.heap.size w w' := by
  have HLG := Lib.hid (light21_any w ao so eo n c sn sc en ec ks ss es w (Below.refl _ _) h hs ha)
  have HLV := Lib.hid (fun W => lives21_any W)
  have HCE := Lib.hid (fun x W => rcell14_any x W)
  obtain ⟨i0, hi0, hz0, hz1, hz2⟩ := info_parts fvInfoKn
  have HI := Lib.hid (show _ ∧ _ ∧ _ ∧ _ from ⟨hi0, hz0, hz1, hz2⟩)
  have HK := Lib.hid h
  have HS := Lib.hid hs
  have HA := Lib.hid ha
  have HWK := Lib.hid hwk
  have HWS := Lib.hid hws
  have HWA := Lib.hid hwa
  have HL := Lib.hid (show n = ks.length ∧ sn = ss.length ∧ en = es.length from ⟨h.len.1, hs.len.1, ha.len.1⟩)
  have hl2 := h.len.2
  have hs2 := hs.len.2
  have ha2 := ha.len.2
  clear hi0 hz0 hz1 hz2 h hs ha hwk hws hwa
  go_enter Try.func4, Try.ntmps4
  go_wp2_with fail
  refine HLG.out.mono ?_
  rintro e w1 ⟨r, rfl, hr, hb1⟩
  have HR := Lib.hid hr
  have HB1 := Lib.hid hb1
  clear hr hb1
  cases r with
  | false =>
    go_wp2_with fail
    refine (HLV.out _).mono ?_
    rintro e w9 ⟨rfl, hb9⟩
    have HX9 := Lib.hid (HB1.out.trans (hb9.mono HB1.out.size))
    clear hb9
    go_wp2
    go_ret
    exact ⟨rfl, HX9.out⟩
  | true =>
  have HLT := Lib.hid (HR.out.1 (by first | rfl | trivial))
  have hn40 : n ≤ 40 := by have := HLT.out.2.1.2; have := HL.out.1; omega
  have hs40 : sn ≤ 40 := by have := HLT.out.2.2.1; have := HL.out.2.1; omega
  have he60 : en ≤ 60 := by have := HLT.out.2.2.2; have := HL.out.2.2; omega
  clear HR HLG
  go_wp2
  go_loopw [7, 33] (fun s7 s33 wr => ∃ (i : Nat) (xo : Option Addr) (xc : Nat), s7 = .slice xo i xc ∧ s33 = .int .i64 i ∧ i ≤ n ∧ Hid (C1 w wr xo i xc (ks.take i) ∧ ∀ j, j < i → cellB (kAt ks j).c = true ∧ (kAt ks j).wd ≠ 0)) (fun _ s33 _ => n - (intOf s33).toNat)
  case atStart => exact ⟨0, none, 0, rfl, rfl, Nat.zero_le _, Lib.hid ⟨⟨KsR.nil _ _ _, HB1.out, fun p q hp => absurd hp (Nat.not_lt_zero _)⟩, fun j hj => absurd hj (Nat.not_lt_zero _)⟩⟩
  case round =>
    obtain ⟨i, xo, xc, rfl, rfl, hi, HV⟩ := hrel
    by_cases hlt : i < n
    · obtain ⟨g, o, ak, nk, ck, av, nv, cv, ac, nc, cc, rfl, hP, hc⟩ := (HK.out.keep HV.out.1.be).get hlt
      have hil : i < ks.length := by have := HL.out.1; omega
      obtain ⟨kn, hkn⟩ : ∃ kn, kn = kAt ks i := ⟨_, rfl⟩
      rw [← hkn] at hc hP
      obtain ⟨rfl, rfl, rfl, hnd⟩ := hP.nd
      obtain ⟨q0, q1, q2, q3, q4, q5, q6, q7, q8, q9, q10⟩ := hc _ (Below.refl _ _)
      have hlt' : (i : Int) < n := by omega
      have hx := boxed_below wr (.cells #[.int .i64 kn.c, .int .u64 kn.wd, .int .u64 kn.vr, .int .i64 kn.n.lv, .string kn.n.lo, .string kn.n.hi, .bool kn.n.la, .int .i64 kn.n.nx, .slice ak kn.n.ks.length ck, .slice av kn.n.vs.length cv, .slice ac kn.n.cs.length cc] 43)
      have n2 := BX.new wr 43 #[.int .i64 kn.c, .int .u64 kn.wd, .int .u64 kn.vr, .int .i64 kn.n.lv, .string kn.n.lo, .string kn.n.hi, .bool kn.n.la, .int .i64 kn.n.nx, .slice ak kn.n.ks.length ck, .slice av kn.n.vs.length cv, .slice ac kn.n.cs.length cc]
      obtain ⟨S, hS⟩ : ∃ g, g = wr.heap.size := ⟨_, rfl⟩
      rw [← hS] at n2
      obtain ⟨W2, hW2⟩ : ∃ W, W = wr.alloc (.cells #[.int .i64 kn.c, .int .u64 kn.wd, .int .u64 kn.vr, .int .i64 kn.n.lv, .string kn.n.lo, .string kn.n.hi, .bool kn.n.la, .int .i64 kn.n.nx, .slice ak kn.n.ks.length ck, .slice av kn.n.vs.length cv, .slice ac kn.n.cs.length cc] 43) := ⟨_, rfl⟩
      rw [← hW2] at hx n2
      have HX := Lib.hid hx
      have HC2 := Lib.hid (show C1 w W2 xo i xc (ks.take i) from ⟨HV.out.1.row.keep hx, HV.out.1.be.trans (hx.mono HV.out.1.be.size), HV.out.1.ap⟩)
      have HN2 := Lib.hid n2
      have HP := Lib.hid hP
      have HKN := Lib.hid hkn
      have HIL := Lib.hid hil
      have HW2 := Lib.hid (show S = wr.heap.size ∧ _ from ⟨hS, hW2⟩)
      have c0 := n2.cell 0 rfl
      have c1 : W2.cell? ⟨S, 1, none⟩ = some (.int .u64 kn.wd) := n2.cell 1 rfl
      have HFI := Lib.hid (rfind_any xo i xc none 0 0 0 0 kn.c (ks.take i) W2 HC2.out.row.ks)
      have HCB := Lib.hid HC2.out.be
      clear hx n2 hS hW2 hP hkn hil hc hnd
      go_upto_region 7 with fail
      rw [← HW2.out.1, ← HW2.out.2]
      clear HW2 q0 q1 q2 q3 q4 q5 q6 q7 q8 q9 q10
      have HCEX := Lib.hid (HCE.out kn.c W2)
      cases hcb : cellB kn.c with
      | false =>
        rw [hcb] at HCEX
        clear hcb
        go_wp2_with fail
        refine HCEX.out.mono ?_
        rintro e w3 ⟨rfl, h3⟩
        rw [← h3]
        clear h3
        go_wp2_with fail
        refine (HLV.out _).mono ?_
        rintro e w9 ⟨rfl, hb9⟩
        have HX9 := Lib.hid (HCB.out.trans (hb9.mono HCB.out.size))
        clear hb9
        go_wp2
        go_ret
        exact ⟨rfl, HX9.out⟩
      | true =>
        rw [hcb] at HCEX
        have HCB1 := Lib.hid hcb
        clear hcb
        by_cases hwd : kn.wd = 0
        · have hwd2 : (kn.wd == 0) = true := beq_iff_eq.2 hwd
          clear hwd
          go_wp2_with fail
          refine HCEX.out.mono ?_
          rintro e w3 ⟨rfl, h3⟩
          rw [← h3]
          clear h3
          go_wp2_with fail
          refine (HLV.out _).mono ?_
          rintro e w9 ⟨rfl, hb9⟩
          have HX9 := Lib.hid (HCB.out.trans (hb9.mono HCB.out.size))
          clear hb9
          go_wp2
          go_ret
          exact ⟨rfl, HX9.out⟩
        · have hwd2 : (kn.wd == 0) = false := beq_eq_false_iff_ne.2 hwd
          have HWD := Lib.hid hwd
          clear hwd
          rcases kidx_cases (ks.take i) kn.c with ⟨hk1, _⟩ | ⟨j, _, hk1, _⟩
          · have HNO := Lib.hid (kidx_not hk1)
            rw [hk1] at HFI
            clear hk1
            go_wp2_with fail
            refine HCEX.out.mono ?_
            rintro e w3 ⟨rfl, h3⟩
            rw [← h3]
            clear h3
            go_wp2_with fail
            refine HFI.out.mono ?_
            rintro e w4 ⟨rfl, hb4⟩
            have n4 := HN2.out.below hb4
            have hr4 := HC2.out.row.keep hb4
            have HB4 := Lib.hid (HC2.out.be.trans (hb4.mono HC2.out.be.size))
            obtain ⟨ls, hls, hown⟩ := hr4
            have htl : (ks.take i).length = i := by rw [List.length_take]; have := HIL.out; omega
            rw [htl] at hown
            have hbA : Below w4.heap.size w4 (w4.alloc (.cells #[.int .i64 kn.c, .int .u64 kn.wd, .int .u64 kn.vr, .int .i64 kn.n.lv, .string kn.n.lo, .string kn.n.hi, .bool kn.n.la, .int .i64 kn.n.nx, .slice ak kn.n.ks.length ck, .slice av kn.n.vs.length cv, .slice ac kn.n.cs.length cc] 43)) := (Below.refl _ _).alloc (Nat.le_refl _) _
            have ho1 := fv_stays hown hbA
            have hnews := World.news_of_block (cs := #[.int .i64 kn.c, .int .u64 kn.wd, .int .u64 kn.vr, .int .i64 kn.n.lv, .string kn.n.lo, .string kn.n.hi, .bool kn.n.la, .int .i64 kn.n.nx, .slice ak kn.n.ks.length ck, .slice av kn.n.vs.length cv, .slice ac kn.n.cs.length cc]) (heap_alloc_new w4 (.cells #[.int .i64 kn.c, .int .u64 kn.wd, .int .u64 kn.vr, .int .i64 kn.n.lv, .string kn.n.lo, .string kn.n.hi, .bool kn.n.la, .int .i64 kn.n.nx, .slice ak kn.n.ks.length ck, .slice av kn.n.vs.length cv, .slice ac kn.n.cs.length cc] 43))
            have hKL : KL (PV w) [.int .i64 kn.c, .int .u64 kn.wd, .int .u64 kn.vr, .int .i64 kn.n.lv, .string kn.n.lo, .string kn.n.hi, .bool kn.n.la, .int .i64 kn.n.nx, .slice ak kn.n.ks.length ck, .slice av kn.n.vs.length cv, .slice ac kn.n.cs.length cc] kn := ⟨ak, _, ck, av, _, cv, ac, _, cc, rfl, HP.out⟩
            have hone := hKL.ones
            have HH := Lib.hid (show _ ∧ _ ∧ _ ∧ _ ∧ _ from ⟨hls, hKL, ho1, hnews, hone⟩)
            have HS9 := Lib.hid (show w.heap.size ≤ (w4.alloc (.cells #[.int .i64 kn.c, .int .u64 kn.wd, .int .u64 kn.vr, .int .i64 kn.n.lv, .string kn.n.lo, .string kn.n.hi, .bool kn.n.la, .int .i64 kn.n.nx, .slice ak kn.n.ks.length ck, .slice av kn.n.vs.length cv, .slice ac kn.n.cs.length cc] 43)).heap.size from Nat.le_trans HB4.out.size hbA.size)
            have HB9 := Lib.hid (HB4.out.trans (hbA.mono HB4.out.size))
            have HTL := Lib.hid htl
            clear c0 c1 hown ho1 hnews hKL hone hls hbA htl
            have c0 := n4.cell 0 rfl
            have c1 := n4.cell 1 rfl
            have c2 := n4.cell 2 rfl
            have c3 := n4.cell 3 rfl
            have c4 := n4.cell 4 rfl
            have c5 := n4.cell 5 rfl
            have c6 := n4.cell 6 rfl
            have c7 := n4.cell 7 rfl
            have c8 := n4.cell 8 rfl
            have c9 := n4.cell 9 rfl
            have c10 := n4.cell 10 rfl
            clear n4 hb4
            go_wp2_with ((with_reducible show wpList _ _ _ (⟨some 58, _, _, _, _, _⟩ :: _) _ _); refine wpList_append_own (o := ⟨some 58, _, _, _, _, _⟩) _ rfl _ _ 22 rfl w.heap.size 43 i0 (.agg #[.int .i64 0, .int .u64 0, .int .u64 0, .int .i64 0, .string ⟨#[]⟩, .string ⟨#[]⟩, .bool false, .int .i64 0, .slice none 0 0, .slice none 0 0, .slice none 0 0]) 11 152 Try.underlying22 HI.out.1 HI.out.2.1 HI.out.2.2.1 HI.out.2.2.2 rfl (by decide) _ _ _ rfl HH.out.2.2.1 ⟨w4.heap.size, 0, none⟩ 1 1 [.int .i64 kn.c, .int .u64 kn.wd, .int .u64 kn.vr, .int .i64 kn.n.lv, .string kn.n.lo, .string kn.n.hi, .bool kn.n.la, .int .i64 kn.n.nx, .slice ak kn.n.ks.length ck, .slice av kn.n.vs.length cv, .slice ac kn.n.cs.length cc] rfl rfl HH.out.2.2.2.1 HH.out.2.2.2.2 (by unfold maxLen; omega) (by omega) HS9.out ?_)
            intro v2 w10 hown2 hgrow2 _
            have hrow10 : KsR (PV w) w10 w.heap.size v2 (ks.take i ++ [kn]) := KsR.add HH.out.1 HH.out.2.1 (by rw [HTL.out]; exact hown2)
            have hB10 : Below w.heap.size w w10 := HB9.out.grown hgrow2 HS9.out (fun j hj => (fv_block HH.out.2.2.1 hj).1)
            obtain ⟨oo2, oc2, rfl⟩ := hrow10.open
            have hlen2 : (ks.take i ++ [kn]).length = i + 1 := by rw [List.length_append, List.length_singleton, HTL.out]
            have hmore : ks.take (i + 1) = ks.take i ++ [kn] := by rw [List.take_succ_eq_append_getElem HIL.out, HKN.out, kAt_eq HIL.out]
            rw [hlen2] at hrow10 ⊢
            have HEND := Lib.hid (show C1 w w10 oo2 (i + 1) oc2 (ks.take (i + 1)) ∧ ∀ j, j < i + 1 → cellB (kAt ks j).c = true ∧ (kAt ks j).wd ≠ 0 from ⟨⟨by rw [hmore]; exact hrow10, hB10, by rw [hmore]; exact apart_add HC2.out.ap HNO.out⟩, fun j hj => by
              by_cases e : j = i
              · rw [e, ← HKN.out]
                exact ⟨HCB1.out, HWD.out⟩
              · exact HV.out.2 j (by omega)⟩)
            clear hrow10 hB10 hlen2 hmore hown2 hgrow2
            go_wp2
            go_roundw
            case rel => exact ⟨i + 1, oo2, oc2, rfl, by go_num, by omega, HEND⟩
            case measure => simp [intOf]; omega
          · rw [hk1] at HFI
            have hj0 : (0 : Int) ≤ (j : Int) := by omega
            clear hk1
            go_wp2_with fail
            refine HCEX.out.mono ?_
            rintro e w3 ⟨rfl, h3⟩
            rw [← h3]
            clear h3
            go_wp2_with fail
            refine HFI.out.mono ?_
            rintro e w4 ⟨rfl, hb4⟩
            have HB4 := Lib.hid (HC2.out.be.trans (hb4.mono HC2.out.be.size))
            clear hb4
            go_wp2_with fail
            refine (HLV.out _).mono ?_
            rintro e w9 ⟨rfl, hb9⟩
            have HX9 := Lib.hid (HB4.out.trans (hb9.mono HB4.out.size))
            clear hb9
            go_wp2
            go_ret
            exact ⟨rfl, HX9.out⟩
    · obtain rfl : i = n := by omega
      have hall : ks.take i = ks := by rw [HL.out.1]; exact List.take_length
      rw [hall] at HV
      have HG0 := Lib.hid HV.out.2
      have HC0 := Lib.hid HV.out.1
      have HEK := Lib.hid (show cellsK ks (ss.take 0) = ks from by simp [cellsK])
      clear HV
      go_wp2
      go_loopw [7, 62] (fun s7 s62 wr2 => ∃ (j xn : Nat) (xo : Option Addr) (xc : Nat), s7 = .slice xo xn xc ∧ s62 = .int .i64 j ∧ j ≤ sn ∧ xn ≤ 1000 ∧ Hid (C1 w wr2 xo xn xc (cellsK ks (ss.take j)) ∧ (∀ p, p < j → cellB (nts ss p).1 = true) ∧ xn = ks.length + j)) (fun _ s62 _ => sn - (intOf s62).toNat)
      case atStart => exact ⟨0, _, xo, xc, rfl, rfl, Nat.zero_le _, by omega, Lib.hid ⟨by rw [HEK.out]; exact HC0.out, fun p hp => absurd hp (Nat.not_lt_zero _), by have := HL.out.1; omega⟩⟩
      case round =>
        obtain ⟨j, xn, xo, xc, rfl, rfl, hj, hxn, HV⟩ := hrel
        by_cases hlt2 : j < sn
        · obtain ⟨g, o, rfl, q0, q1⟩ := (HS.out.keep HV.out.1.be).get hlt2
          have hjl : j < ss.length := by have := HL.out.2.1; omega
          obtain ⟨p, hp⟩ : ∃ p, p = nts ss j := ⟨_, rfl⟩
          rw [← hp] at q0 q1
          have HPP := Lib.hid hp
          obtain ⟨x, v⟩ := p
          have hlt2' : (j : Int) < sn := by omega
          have hx := boxed_below wr (.cells #[.int .i64 x, .int .u64 v] 51)
          have n2 := BX.new wr 51 #[.int .i64 x, .int .u64 v]
          obtain ⟨S, hS⟩ : ∃ g, g = wr.heap.size := ⟨_, rfl⟩
          rw [← hS] at n2
          obtain ⟨W2, hW2⟩ : ∃ W, W = wr.alloc (.cells #[.int .i64 x, .int .u64 v] 51) := ⟨_, rfl⟩
          rw [← hW2] at hx n2
          have HC2 := Lib.hid (show C1 w W2 xo xn xc (cellsK ks (ss.take j)) from ⟨HV.out.1.row.keep hx, HV.out.1.be.trans (hx.mono HV.out.1.be.size), HV.out.1.ap⟩)
          have HN2 := Lib.hid n2
          have HJL := Lib.hid hjl
          have HW2 := Lib.hid (show S = wr.heap.size ∧ _ from ⟨hS, hW2⟩)
          have c0 := n2.cell 0 rfl
          have c1 := n2.cell 1 rfl
          have HFI := Lib.hid (rfind_any xo xn xc none 0 0 0 0 x (cellsK ks (ss.take j)) W2 HC2.out.row.ks)
          have HCB := Lib.hid HC2.out.be
          clear hx n2 hS hW2 hp hjl
          go_upto_region 14 with fail
          rw [← HW2.out.1, ← HW2.out.2]
          clear HW2 q0 q1
          have HCEX := Lib.hid (HCE.out x W2)
          cases hcb : cellB x with
          | false =>
            rw [hcb] at HCEX
            clear hcb
            go_wp2_with fail
            refine HCEX.out.mono ?_
            rintro e w3 ⟨rfl, h3⟩
            rw [← h3]
            clear h3
            go_wp2_with fail
            refine (HLV.out _).mono ?_
            rintro e w9 ⟨rfl, hb9⟩
            have HX9 := Lib.hid (HCB.out.trans (hb9.mono HCB.out.size))
            clear hb9
            go_wp2
            go_ret
            exact ⟨rfl, HX9.out⟩
          | true =>
            rw [hcb] at HCEX
            have HCB1 := Lib.hid hcb
            clear hcb
            rcases kidx_cases (cellsK ks (ss.take j)) x with ⟨hk1, _⟩ | ⟨l, _, hk1, _⟩
            · have HNO := Lib.hid (kidx_not hk1)
              rw [hk1] at HFI
              clear hk1
              go_wp2_with fail
              refine HCEX.out.mono ?_
              rintro e w3 ⟨rfl, h3⟩
              rw [← h3]
              clear h3
              go_wp2_with fail
              refine HFI.out.mono ?_
              rintro e w4 ⟨rfl, hb4⟩
              have n4 := HN2.out.below hb4
              have hr4 := HC2.out.row.keep hb4
              have HB4 := Lib.hid (HC2.out.be.trans (hb4.mono HC2.out.be.size))
              obtain ⟨ls, hls, hown⟩ := hr4
              have htl : (cellsK ks (ss.take j)).length = xn := by rw [cellsK_len, List.length_take, HV.out.2.2]; have := HJL.out; omega
              rw [htl] at hown
              have hbA : Below w4.heap.size w4 (w4.alloc (.cells #[.int .i64 x, .int .u64 0, .int .u64 v, .int .i64 0, .string ⟨#[]⟩, .string ⟨#[]⟩, .bool false, .int .i64 0, .slice none 0 0, .slice none 0 0, .slice none 0 0] 43)) := (Below.refl _ _).alloc (Nat.le_refl _) _
              have ho1 := fv_stays hown hbA
              have hnews := World.news_of_block (cs := #[.int .i64 x, .int .u64 0, .int .u64 v, .int .i64 0, .string ⟨#[]⟩, .string ⟨#[]⟩, .bool false, .int .i64 0, .slice none 0 0, .slice none 0 0, .slice none 0 0]) (heap_alloc_new w4 (.cells #[.int .i64 x, .int .u64 0, .int .u64 v, .int .i64 0, .string ⟨#[]⟩, .string ⟨#[]⟩, .bool false, .int .i64 0, .slice none 0 0, .slice none 0 0, .slice none 0 0] 43))
              have hnil : NdAt w none none none 0 0 0 0 0 0 [] [] [] := (NdO.zero w 0).at_.2.2.2.2.2.2
              have hKL : KL (PV w) [.int .i64 x, .int .u64 0, .int .u64 v, .int .i64 0, .string ⟨#[]⟩, .string ⟨#[]⟩, .bool false, .int .i64 0, .slice none 0 0, .slice none 0 0, .slice none 0 0] (spK (x, v)) := ⟨none, 0, 0, none, 0, 0, none, 0, 0, rfl, ⟨none, none, none, 0, 0, 0, rfl, hnil⟩⟩
              have hone := hKL.ones
              have HH := Lib.hid (show _ ∧ _ ∧ _ ∧ _ ∧ _ from ⟨hls, hKL, ho1, hnews, hone⟩)
              have HS9 := Lib.hid (show w.heap.size ≤ (w4.alloc (.cells #[.int .i64 x, .int .u64 0, .int .u64 v, .int .i64 0, .string ⟨#[]⟩, .string ⟨#[]⟩, .bool false, .int .i64 0, .slice none 0 0, .slice none 0 0, .slice none 0 0] 43)).heap.size from Nat.le_trans HB4.out.size hbA.size)
              have HB9 := Lib.hid (HB4.out.trans (hbA.mono HB4.out.size))
              have HTL := Lib.hid htl
              clear c0 c1 hown ho1 hnews hKL hone hls hbA htl hnil
              have c0 := n4.cell 0 rfl
              have c1 := n4.cell 1 rfl
              clear n4 hb4
              go_wp2_with ((with_reducible show wpList _ _ _ (⟨some 86, _, _, _, _, _⟩ :: _) _ _); refine wpList_append_own (o := ⟨some 86, _, _, _, _, _⟩) _ rfl _ _ 22 rfl w.heap.size 43 i0 (.agg #[.int .i64 0, .int .u64 0, .int .u64 0, .int .i64 0, .string ⟨#[]⟩, .string ⟨#[]⟩, .bool false, .int .i64 0, .slice none 0 0, .slice none 0 0, .slice none 0 0]) 11 152 Try.underlying22 HI.out.1 HI.out.2.1 HI.out.2.2.1 HI.out.2.2.2 rfl (by decide) _ _ _ rfl HH.out.2.2.1 ⟨w4.heap.size, 0, none⟩ 1 1 [.int .i64 x, .int .u64 0, .int .u64 v, .int .i64 0, .string ⟨#[]⟩, .string ⟨#[]⟩, .bool false, .int .i64 0, .slice none 0 0, .slice none 0 0, .slice none 0 0] rfl rfl HH.out.2.2.2.1 HH.out.2.2.2.2 (by unfold maxLen; omega) (by omega) HS9.out ?_)
              intro v2 w10 hown2 hgrow2 _
              have hrow10 : KsR (PV w) w10 w.heap.size v2 (cellsK ks (ss.take j) ++ [spK (x, v)]) := KsR.add HH.out.1 HH.out.2.1 (by rw [HTL.out]; exact hown2)
              have hB10 : Below w.heap.size w w10 := HB9.out.grown hgrow2 HS9.out (fun j hj => (fv_block HH.out.2.2.1 hj).1)
              obtain ⟨oo2, oc2, rfl⟩ := hrow10.open
              have hlen2 : (cellsK ks (ss.take j) ++ [spK (x, v)]).length = xn + 1 := by rw [List.length_append, List.length_singleton, HTL.out]
              have hmore : cellsK ks (ss.take (j + 1)) = cellsK ks (ss.take j) ++ [spK (x, v)] := by rw [cellsK_more HJL.out, HPP.out]
              rw [hlen2] at hrow10 ⊢
              have HEND := Lib.hid (show C1 w w10 oo2 (xn + 1) oc2 (cellsK ks (ss.take (j + 1))) ∧ (∀ p, p < j + 1 → cellB (nts ss p).1 = true) ∧ xn + 1 = ks.length + (j + 1) from ⟨⟨by rw [hmore]; exact hrow10, hB10, by rw [hmore]; exact apart_add HC2.out.ap HNO.out⟩, fun p hp => by
                by_cases e : p = j
                · rw [e, ← HPP.out]
                  exact HCB1.out
                · exact HV.out.2.1 p (by omega), by have := HV.out.2.2; omega⟩)
              have hxn2 : xn + 1 ≤ 1000 := by have := HV.out.2.2; have := HL.out.1; omega
              clear hrow10 hB10 hlen2 hmore hown2 hgrow2
              go_wp2
              go_roundw
              case rel => exact ⟨j + 1, xn + 1, oo2, oc2, rfl, by go_num, by omega, hxn2, HEND⟩
              case measure => simp [intOf]; omega
            · rw [hk1] at HFI
              have hj0 : (0 : Int) ≤ (l : Int) := by omega
              clear hk1
              go_wp2_with fail
              refine HCEX.out.mono ?_
              rintro e w3 ⟨rfl, h3⟩
              rw [← h3]
              clear h3
              go_wp2_with fail
              refine HFI.out.mono ?_
              rintro e w4 ⟨rfl, hb4⟩
              have HB4 := Lib.hid (HC2.out.be.trans (hb4.mono HC2.out.be.size))
              clear hb4
              go_wp2_with fail
              refine (HLV.out _).mono ?_
              rintro e w9 ⟨rfl, hb9⟩
              have HX9 := Lib.hid (HB4.out.trans (hb9.mono HB4.out.size))
              clear hb9
              go_wp2
              go_ret
              exact ⟨rfl, HX9.out⟩
        · obtain rfl : j = sn := by omega
          have hall2 : ss.take j = ss := by rw [HL.out.2.1]; exact List.take_length
          rw [hall2] at HV
          obtain ⟨wB, rfl⟩ : ∃ wB : World, wB = wr := ⟨_, rfl⟩
          have HG := Lib.hid (show Good1 ks ss from ⟨HV.out.1.ap, fun q hq => HG0.out q (by have := HL.out.1; omega), fun q hq => HV.out.2.1 q (by have := HL.out.2.1; omega)⟩)
          have HC := Lib.hid HV.out.1
          have HXN := Lib.hid (show xn = (cellsK ks ss).length from by rw [cellsK_len]; have := HV.out.2.2; have := HL.out.2.1; omega)
          obtain ⟨B, hB⟩ : ∃ g, g = wB.heap.size := ⟨_, rfl⟩
          have HVI := Lib.hid (views_any w ao so i c j sc ks ss wB HV.out.1.be (HK.out.keep HV.out.1.be) (nodOk_e HWK.out HLT.out.2.1) (by omega) (HS.out.keep HV.out.1.be) (by omega))
          rw [HG.out.learn, HG.out.told, ← hB] at HVI
          have HBB := Lib.hid hB
          clear HV HC0 HG0 hall2 hB
          go_wp2_with fail
          refine HVI.out.mono ?_
          rintro e w5 ⟨A, b, N, lo, vo, po, ln, lc, vn, vc, pn, pc, rfl, hf5, hb5⟩
          have hx := boxed_below w5 (.cells #[.slice lo ln lc, .slice po pn pc, .int .i64 0, .int .i64 0] 49)
          obtain ⟨W6, hW6⟩ : ∃ W, W = w5.alloc (.cells #[.slice lo ln lc, .slice po pn pc, .int .i64 0, .int .i64 0] 49) := ⟨_, rfl⟩
          rw [← hW6] at hx
          have hf6 := hf5.keep hx
          have HBG := Lib.hid (begin_any (some ⟨A, 0, none⟩) W6)
          have he6 := begin_es hf6
          have hx6 := boxed_below W6 (.cells #[.pointer (some ⟨A, 0, none⟩), .slice none 0 0, .slice none 0 0] 71)
          obtain ⟨E, hE⟩ : ∃ g, g = W6.heap.size := ⟨_, rfl⟩
          rw [← hE] at HBG he6
          have HE6 := Lib.hid he6
          have HX6 := Lib.hid (show Below wB.heap.size wB (W6.alloc (.cells #[.pointer (some ⟨A, 0, none⟩), .slice none 0 0, .slice none 0 0] 71)) from by
            rw [← HBB.out]
            have h1 : Below B w5 W6 := hx.mono (by have := hb5.size; have := HBB.out; omega)
            exact (hb5.trans h1).trans (hx6.mono (by have := h1.size; have := hb5.size; have := HBB.out; omega)))
          have HW6 := Lib.hid hW6
          clear hf5 hb5 hx hW6 hf6 he6 hx6 hE
          go_upto_region 19 with fail
          rw [← HW6.out]
          clear HW6
          go_wp2_with fail
          refine HBG.out.mono ?_
          rintro e w7 ⟨rfl, h7⟩
          rw [← h7] at HE6 HX6
          have HST := Lib.hid (show EGS wB w7 B E A b N (.slice vo vn vc) ks ss from ⟨_, _, _, _, _, _, [], [], HE6.out, HX6.out, fun q hq => absurd hq (Nat.not_lt_zero _), by simp, rfl, Nat.zero_le _⟩)
          clear HE6 HX6 h7 HBG
          go_wp2
          go_loopw [98] (fun s98 wr => ∃ q : Nat, s98 = .int .i64 q ∧ q ≤ en ∧ Hid (EGS wB wr B E A b N (.slice vo vn vc) ks ss)) (fun s98 _ => en - (intOf s98).toNat)
          case atStart => exact ⟨0, rfl, Nat.zero_le _, HST⟩
          case round =>
            obtain ⟨q, rfl, hq, HV⟩ := hrel
            obtain ⟨xa, nc, cc, tv, k, m, cs, ts, hes, hbe, hgc, h46, hts, htl⟩ := HV.out
            by_cases hlt3 : q < en
            · have hbw : Below w.heap.size w wr := HC.out.be.trans (hbe.mono HC.out.be.size)
              obtain ⟨g, o, ak, nk, ck, av, nv, cv, ac, na, ca, rfl, hP, hc⟩ := (HA.out.keep hbw).get hlt3
              have hql : q < es.length := by have := HL.out.2.2; omega
              have hwfa := HWA.out _ (eaAt_mem hql)
              have hlig := HLT.out.1 _ (eaAt_mem hql)
              obtain ⟨a, hkn⟩ : ∃ a, a = eaAt es q := ⟨_, rfl⟩
              rw [← hkn] at hc hP hwfa hlig
              obtain ⟨rfl, rfl, rfl, hnd⟩ := hP.nd
              obtain ⟨q0, q1, q2, q3, q4, q5, q6, q7, q8, q9, q10⟩ : _ ∧ _ ∧ _ ∧ _ ∧ _ ∧ _ ∧ _ ∧ _ ∧ _ ∧ _ ∧ _ := ⟨hc _ (Below.refl _ _) 0 (by decide), hc _ (Below.refl _ _) 1 (by decide), hc _ (Below.refl _ _) 2 (by decide), hc _ (Below.refl _ _) 3 (by decide), hc _ (Below.refl _ _) 4 (by decide), hc _ (Below.refl _ _) 5 (by decide), hc _ (Below.refl _ _) 6 (by decide), hc _ (Below.refl _ _) 7 (by decide), hc _ (Below.refl _ _) 8 (by decide), hc _ (Below.refl _ _) 9 (by decide), hc _ (Below.refl _ _) 10 (by decide)⟩
              simp only [Ea.cells, List.getElem?_cons_zero, List.getElem?_cons_succ, Nat.add_zero] at q0 q1 q2 q3 q4 q5 q6 q7 q8 q9 q10
              have hlt3' : (q : Int) < en := by omega
              have hx := boxed_below wr (.cells #[.int .i64 a.kd, .int .i64 a.c, .int .i64 a.n.lv, .string a.n.lo, .string a.n.hi, .bool a.n.la, .int .i64 a.n.nx, .slice ak a.n.ks.length ck, .slice av a.n.vs.length cv, .slice ac a.n.cs.length ca, .bool a.li] 58)
              have n2 := BX.new wr 58 #[.int .i64 a.kd, .int .i64 a.c, .int .i64 a.n.lv, .string a.n.lo, .string a.n.hi, .bool a.n.la, .int .i64 a.n.nx, .slice ak a.n.ks.length ck, .slice av a.n.vs.length cv, .slice ac a.n.cs.length ca, .bool a.li]
              obtain ⟨S, hS⟩ : ∃ g, g = wr.heap.size := ⟨_, rfl⟩
              rw [← hS] at n2
              obtain ⟨W2, hW2⟩ : ∃ W, W = wr.alloc (.cells #[.int .i64 a.kd, .int .i64 a.c, .int .i64 a.n.lv, .string a.n.lo, .string a.n.hi, .bool a.n.la, .int .i64 a.n.nx, .slice ak a.n.ks.length ck, .slice av a.n.vs.length cv, .slice ac a.n.cs.length ca, .bool a.li] 58) := ⟨_, rfl⟩
              rw [← hW2] at hx n2
              have hes2 := hes.keep hx
              have hbe2 : Below wB.heap.size wB W2 := hbe.trans (hx.mono hbe.size)
              have HSV := Lib.hid (show ∀ z, ESet E A b (.slice xa nc cc) tv (.slice vo vn vc) z → z < S from fun z hz => by have := hes.lt z hz; omega)
              have HES := Lib.hid hes2
              have HBE := Lib.hid hbe2
              have HGC := Lib.hid (show _ ∧ _ ∧ _ ∧ _ from ⟨hgc, h46, hts, htl⟩)
              have HN2 := Lib.hid n2
              have HND := Lib.hid (hnd.keep (hbw.trans (hx.mono hbw.size)))
              have HLI := Lib.hid hlig
              have HWF := Lib.hid hwfa
              have HW2 := Lib.hid (show S = wr.heap.size ∧ _ from ⟨hS, hW2⟩)
              have c0 := n2.cell 0 rfl
              have c1 := n2.cell 1 rfl
              have c2 := n2.cell 2 rfl
              have c3 := n2.cell 3 rfl
              have c4 := n2.cell 4 rfl
              have c5 := n2.cell 5 rfl
              have c6 := n2.cell 6 rfl
              have c7 := n2.cell 7 rfl
              have c8 := n2.cell 8 rfl
              have c9 := n2.cell 9 rfl
              have c10 := n2.cell 10 rfl
              clear hx n2 hS hW2 hes hes2 hbe hbe2 hgc h46 hts htl hlig hwfa hP hc hkn hnd hql hbw HV
              go_upto_region 23 with fail
              rw [← HW2.out.1, ← HW2.out.2]
              clear HW2 q0 q1 q2 q3 q4 q5 q6 q7 q8 q9 q10
              by_cases hk0 : a.kd = 0
              · have hk0' : (a.kd == 0) = true := beq_iff_eq.2 hk0
                have HSET := Lib.hid (set_any a.c a.n ak ck av cv ac ca a.li W2 HES.out HND.out ⟨by have := HLI.out.n; omega, by have := HLI.out.n; omega, by have := HLI.out.n; omega⟩ HWF.out)
                clear hk0
                go_wp2_with fail
                refine HSET.out.mono ?_
                rintro e w8 ⟨r, xa', nc', cc', k', m', cs', rfl, hes8, ht8, hch⟩
                have hga := good_add HG.out HGC.out.2.2.1 HGC.out.2.2.2 HGC.out.1 rfl (fun h => by cases h) hch
                have HEND := Lib.hid (show EGS wB w8 B E A b N (.slice vo vn vc) ks ss from ⟨xa', nc', cc', tv, k', m', cs', ts, hes8, HBE.out.trans (ht8.below (fun z hz => by rw [← HBB.out]; exact HES.out.base z hz) HBE.out.size), hga.1, hga.2 HGC.out.2.1, HGC.out.2.2⟩)
                clear hes8 ht8 hch hga c0 c1 c2 c3 c4 c5 c6 c7 c8 c9 c10
                go_wp2
                go_roundw
                case rel => exact ⟨q + 1, by go_num, by omega, HEND⟩
                case measure => simp [intOf]; omega
              · have hk0' : (a.kd == 0) = false := beq_eq_false_iff_ne.2 hk0
                by_cases hk1 : a.kd = 1
                · have hk1' : (a.kd == 1) = true := beq_iff_eq.2 hk1
                  have HAT := Lib.hid (edat_any a.c W2 HES.out HWF.out)
                  clear hk0 hk1
                  go_wp2_with fail
                  refine HAT.out.mono ?_
                  rintro e w8 ⟨nn, kv, vv, cw, r, k', m', rfl, hes8, ht8, hat⟩
                  obtain ⟨bk, dk, bv, dv, bc, dc, rfl, rfl, rfl, hnd8⟩ := eat_nd hat
                  have n8 : BX w8 S 58 #[.int .i64 a.kd, .int .i64 a.c, .int .i64 a.n.lv, .string a.n.lo, .string a.n.hi, .bool a.n.la, .int .i64 a.n.nx, .slice ak a.n.ks.length ck, .slice av a.n.vs.length cv, .slice ac a.n.cs.length ca, .bool a.li] := (ht8.block S (lt_of_block HN2.out) (fun e => by have := HSV.out S (Or.inr (Or.inl e)); omega)).trans HN2.out
                  have hb8 : Below wB.heap.size wB w8 := HBE.out.trans (ht8.below (fun z hz => by rw [← HBB.out]; exact HES.out.base z (Or.inr (Or.inl hz))) HBE.out.size)
                  have hx := boxed_below w8 (.cells #[.int .i64 nn.lv, .string nn.lo, .string nn.hi, .bool nn.la, .int .i64 nn.nx, .slice bk nn.ks.length dk, .slice bv nn.vs.length dv, .slice bc nn.cs.length dc] 41)
                  have n9 := BX.new w8 41 #[.int .i64 nn.lv, .string nn.lo, .string nn.hi, .bool nn.la, .int .i64 nn.nx, .slice bk nn.ks.length dk, .slice bv nn.vs.length dv, .slice bc nn.cs.length dc]
                  obtain ⟨G, hG⟩ : ∃ g, g = w8.heap.size := ⟨_, rfl⟩
                  rw [← hG] at n9
                  obtain ⟨W9, hW9⟩ : ∃ W, W = w8.alloc (.cells #[.int .i64 nn.lv, .string nn.lo, .string nn.hi, .bool nn.la, .int .i64 nn.nx, .slice bk nn.ks.length dk, .slice bv nn.vs.length dv, .slice bc nn.cs.length dc] 41) := ⟨_, rfl⟩
                  rw [← hW9] at hx n9
                  have HES9 := Lib.hid (hes8.keep hx)
                  have HBE9 := Lib.hid (hb8.trans (hx.mono hb8.size))
                  have n29 := n8.below hx
                  have HATI := Lib.hid hat
                  have HW9 := Lib.hid (show G = w8.heap.size ∧ _ from ⟨hG, hW9⟩)
                  have hge : (0 : Int) ≤ (nn.ks.length : Int) := by omega
                  clear c0 c1 c2 c3 c4 c5 c6 c7 c8 c9 c10 n8 hb8 hx hG hW9 hes8 ht8 hat hnd8
                  have c1 := n29.cell 1 rfl
                  have d5 := n9.cell 5 rfl
                  clear n29 n9
                  go_upto_region 28 with fail
                  rw [← HW9.out.1, ← HW9.out.2]
                  clear HW9
                  cases r with
                  | false =>
                    have HEND := Lib.hid (show EGS wB W9 B E A b N (.slice vo vn vc) ks ss from ⟨xa, nc, cc, tv, k', m', cs, ts, HES9.out, HBE9.out, HGC.out⟩)
                    go_wp2
                    go_roundw
                    case rel => exact ⟨q + 1, by go_num, by omega, HEND⟩
                    case measure => simp [intOf]; omega
                  | true =>
                    have HCL := Lib.hid (clear_any a.c W9 HES9.out HWF.out)
                    go_wp2_with fail
                    refine HCL.out.mono ?_
                    rintro e w10 ⟨r, xa', nc', cc', k2, m2, cs', rfl, hes10, ht10, hch⟩
                    have hga := good_add HG.out HGC.out.2.2.1 HGC.out.2.2.2 HGC.out.1 rfl (fun _ => may_of HATI.out rfl) hch
                    have HEND := Lib.hid (show EGS wB w10 B E A b N (.slice vo vn vc) ks ss from ⟨xa', nc', cc', tv, k2, m2, cs', ts, hes10, HBE9.out.trans (ht10.below (fun z hz => by rw [← HBB.out]; exact HES9.out.base z hz) HBE9.out.size), hga.1, hga.2 HGC.out.2.1, HGC.out.2.2⟩)
                    clear hes10 ht10 hch hga c1 d5
                    go_wp2
                    go_roundw
                    case rel => exact ⟨q + 1, by go_num, by omega, HEND⟩
                    case measure => simp [intOf]; omega
                · have hk1' : (a.kd == 1) = false := beq_eq_false_iff_ne.2 hk1
                  by_cases hk2 : a.kd = 2
                  · have hk2' : (a.kd == 2) = true := beq_iff_eq.2 hk2
                    have HSP := Lib.hid (espare_any W2 HES.out (by have := HGC.out.2.2.2; have := HL.out.2.1; omega))
                    clear hk0 hk1 hk2
                    go_wp2_with fail
                    refine HSP.out.mono ?_
                    rintro e w8 ⟨cx, r, tv', k', m', ts', rfl, hes8, ht8, hts⟩
                    have hb8 : Below wB.heap.size wB w8 := HBE.out.trans (ht8.below (fun z hz => by rw [← HBB.out]; exact HES.out.base z hz) HBE.out.size)
                    have hnew : ts' = ss.take ts'.length ∧ ts'.length ≤ ss.length := by
                      rcases hts with ⟨_, h1, _, rfl, _⟩ | ⟨_, _, _, rfl, _⟩
                      · rw [List.length_append, List.length_singleton]
                        refine ⟨?_, by omega⟩
                        rw [List.take_succ_eq_append_getElem h1, ← HGC.out.2.2.1, nts_eq h1]
                      · exact HGC.out.2.2
                    have HEND := Lib.hid (show EGS wB w8 B E A b N (.slice vo vn vc) ks ss from ⟨xa, nc, cc, tv', k', m', cs, ts', hes8, hb8, HGC.out.1, HGC.out.2.1, hnew⟩)
                    clear hes8 ht8 hts hb8 hnew c0 c1 c2 c3 c4 c5 c6 c7 c8 c9 c10
                    go_wp2
                    go_roundw
                    case rel => exact ⟨q + 1, by go_num, by omega, HEND⟩
                    case measure => simp [intOf]; omega
                  · have hk2' : (a.kd == 2) = false := beq_eq_false_iff_ne.2 hk2
                    have HEND := Lib.hid (show EGS wB W2 B E A b N (.slice vo vn vc) ks ss from ⟨xa, nc, cc, tv, k, m, cs, ts, HES.out, HBE.out, HGC.out⟩)
                    clear hk0 hk1 hk2
                    go_wp2
                    go_roundw
                    case rel => exact ⟨q + 1, by go_num, by omega, HEND⟩
                    case measure => simp [intOf]; omega
            · obtain rfl : q = en := by omega
              obtain ⟨xa, nc, cc, tv, k, m, cs, ts, hes, hbe, hgc, h46, hts, htl⟩ := HV.out
              clear HV
              have HCHG := Lib.hid (changes_any wr hes (by omega))
              have HES := Lib.hid (show _ ∧ _ ∧ _ ∧ _ from ⟨hes, hbe, hgc, h46⟩)
              clear hes hbe hgc h46 hts htl
              go_wp2_with fail
              refine HCHG.out.mono ?_
              rintro e w8 ⟨ao', n', c', rfl, hcs8, hsp8, hnil8, hb8⟩
              have hbw8 : Below w.heap.size w w8 := HC.out.be.trans ((HES.out.2.1.trans (hb8.mono HES.out.2.1.size)).mono HC.out.be.size)
              have hrow8 : KsR (PV w) w8 w.heap.size (.slice xo xn xc) (cellsK ks ss) := (HC.out.row.keep HES.out.2.1).keep hb8
              have hform := ksr_form hrow8
              have hwf8 : ∀ p, p < (cellsK ks ss).length → (Lit.int .i64 (kAt (cellsK ks ss) p).c).wf = true := fun p hp => by
                rw [cellsK_len] at hp
                by_cases hpl : p < ks.length
                · rw [cellsK_l hpl]
                  exact (HWK.out _ (kAt_mem hpl)).c
                · obtain ⟨l, rfl⟩ : ∃ l, p = ks.length + l := ⟨p - ks.length, by omega⟩
                  rw [cellsK_r (by omega), nts_eq (by omega)]
                  exact HWS.out _ (List.getElem_mem _)
              obtain ⟨word, hword⟩ : ∃ z : Nat, z = 1048576 := ⟨_, rfl⟩
              have hwi : ((word : Nat) : Int) = 1048576 := by rw [hword]; rfl
              have HAP := Lib.hid (apply_any w xo xn xc (cellsK ks ss) ao' n' c' cs B word w8 hbw8 hrow8.ks hwf8 (by omega) hform.2.2 hform.1 hform.2.1 hcs8 HG.out.apart HES.out.2.2.1 (by have := HES.out.2.2.2; omega) (by omega) (by omega))
              rw [hwi] at HAP
              have HES8 := Lib.hid (show _ ∧ _ from ⟨HES.out.1.keep hb8, HES.out.2.1.trans (hb8.mono HES.out.2.1.size)⟩)
              have HWF8 := Lib.hid hwf8
              have HWD := Lib.hid (show 0 < word from by omega)
              clear hcs8 hsp8 hnil8 hb8 hbw8 hrow8 hform hwf8 hwi hword
              go_wp2_with fail
              refine HAP.out.mono ?_
              rintro e w9 ⟨oo, oc, rfl, hk9, hsp9, hb9⟩
              have hes9 := HES8.out.1.keep hb9
              have HLS := Lib.hid (show LS w wB w9 B E A b N (.slice xa nc cc) tv (.slice vo vn vc) ks ss cs ts oo xn oc (outL cs word (cellsK ks ss) cs.length) from ⟨⟨k, m, hes9⟩, HES8.out.2.trans (hb9.mono HES8.out.2.size), hk9, fun z hz => by
                obtain ⟨g, hg, hge⟩ := hsp9 z hz
                exact ⟨g, hg, fun e => by have := HES8.out.1.lt g (Or.inr (Or.inl e)); omega⟩⟩)
              obtain ⟨L, hL⟩ : ∃ L, L = outL cs word (cellsK ks ss) cs.length := ⟨_, rfl⟩
              rw [← hL] at HLS
              have HLL := Lib.hid hL
              clear hk9 hsp9 hb9 hes9 HES HES8 hL
              go_wp2
              go_loopw [157] (fun s157 wr3 => ∃ q : Nat, s157 = .int .i64 q ∧ q ≤ xn ∧ Hid (LS w wB wr3 B E A b N (.slice xa nc cc) tv (.slice vo vn vc) ks ss cs ts oo xn oc L)) (fun s157 _ => xn - (intOf s157).toNat)
              case atStart => exact ⟨0, rfl, Nat.zero_le _, HLS⟩
              case round =>
                obtain ⟨q, rfl, hq, HV⟩ := hrel
                have HXB := Lib.hid (HC.out.be.trans (HV.out.be.mono HC.out.be.size))
                by_cases hlt4 : q < xn
                · obtain ⟨k, m, hes⟩ := HV.out.es
                  obtain ⟨g, o, ak, nk, ck, av, nv, cv, ac, na, ca, hoo, hP, hc⟩ := HV.out.at_.get hlt4
                  have hqK : q < (cellsK ks ss).length := by have := HXN.out; omega
                  have hkq : kAt L q = outAt cs word (kAt (cellsK ks ss) q) cs.length := by rw [HLL.out]; exact kAt_outL hqK
                  have hkc : (kAt L q).c = (kAt (cellsK ks ss) q).c := by rw [hkq]; exact outAt_c _ _ _ _
                  have hwfq := HWF8.out q hqK
                  rw [← hkc] at hwfq
                  have htm : ∀ (W : World) (k1 m1 k' m' : Int) (nn : Nod) (kv vv cv : Value) (r : Bool), EAtIs W B cs ks (kAt L q).c k1 m1 nn kv vv cv r k' m' → (q < ks.length → r = decide ((kAt L q).wd ≠ 0)) ∧ (r = true → (kAt L q).wd ≠ 0 → nn = (kAt L q).n) := by
                    intro W k1 m1 k' m' nn kv vv cv r hat
                    rw [hkc] at hat
                    rw [hkq]
                    exact told_made HG.out hqK HWD.out hat
                  obtain ⟨kn, hkn⟩ : ∃ kn, kn = kAt L q := ⟨_, rfl⟩
                  rw [← hkn] at hc hP hwfq htm
                  obtain ⟨rfl, rfl, rfl, hnd⟩ := hP.nd HXB.out
                  obtain ⟨q0, q1, q2, q3, q4, q5, q6, q7, q8, q9, q10⟩ := hc _ (Below.refl _ _)
                  have hlt4' : (q : Int) < xn := by omega
                  have hx := boxed_below wr (.cells #[.int .i64 kn.c, .int .u64 kn.wd, .int .u64 kn.vr, .int .i64 kn.n.lv, .string kn.n.lo, .string kn.n.hi, .bool kn.n.la, .int .i64 kn.n.nx, .slice ak kn.n.ks.length ck, .slice av kn.n.vs.length cv, .slice ac kn.n.cs.length ca] 43)
                  have n2 := BX.new wr 43 #[.int .i64 kn.c, .int .u64 kn.wd, .int .u64 kn.vr, .int .i64 kn.n.lv, .string kn.n.lo, .string kn.n.hi, .bool kn.n.la, .int .i64 kn.n.nx, .slice ak kn.n.ks.length ck, .slice av kn.n.vs.length cv, .slice ac kn.n.cs.length ca]
                  obtain ⟨S, hS⟩ : ∃ g, g = wr.heap.size := ⟨_, rfl⟩
                  rw [← hS] at n2
                  obtain ⟨W2, hW2⟩ : ∃ W, W = wr.alloc (.cells #[.int .i64 kn.c, .int .u64 kn.wd, .int .u64 kn.vr, .int .i64 kn.n.lv, .string kn.n.lo, .string kn.n.hi, .bool kn.n.la, .int .i64 kn.n.nx, .slice ak kn.n.ks.length ck, .slice av kn.n.vs.length cv, .slice ac kn.n.cs.length ca] 43) := ⟨_, rfl⟩
                  rw [← hW2] at hx n2
                  have hes2 := hes.keep hx
                  have HES2 := Lib.hid hes2
                  have HL2 := Lib.hid (HV.out.keep hx)
                  have HN2 := Lib.hid n2
                  have HTM := Lib.hid htm
                  have HP := Lib.hid (show PX w W2 _ _ _ kn from hP.keep hx)
                  have HSV := Lib.hid (show ¬ VS A b (.slice vo vn vc) S from fun e => by have := hes.lt S (Or.inr (Or.inl e)); omega)
                  have HAT := Lib.hid (edat_any kn.c W2 hes2 hwfq)
                  have HW2 := Lib.hid (show S = wr.heap.size ∧ _ from ⟨hS, hW2⟩)
                  have c0 := n2.cell 0 rfl
                  have HOO := Lib.hid hoo
                  subst hoo
                  clear hes hes2 hx n2 hS hW2 hwfq htm hkn hkq hkc hc hP hnd HOO
                  go_upto_region 39 with fail
                  rw [← HW2.out.1, ← HW2.out.2]
                  clear HW2 q0 q1 q2 q3 q4 q5 q6 q7 q8 q9 q10
                  go_wp2_with fail
                  refine HAT.out.mono ?_
                  rintro e w8 ⟨nn, kv, vv, cw, r, k', m', rfl, hes8, ht8, hat⟩
                  obtain ⟨bk, dk, bv, dv, bc, dc, rfl, rfl, rfl, hnd8⟩ := eat_nd hat
                  have htm := HTM.out _ _ _ _ _ _ _ _ _ _ hat
                  have hl8 := HL2.out.turn HES2.out (by have := HBB.out; omega) hes8 ht8
                  have n8 : BX w8 S 43 #[.int .i64 kn.c, .int .u64 kn.wd, .int .u64 kn.vr, .int .i64 kn.n.lv, .string kn.n.lo, .string kn.n.hi, .bool kn.n.la, .int .i64 kn.n.nx, .slice ak kn.n.ks.length ck, .slice av kn.n.vs.length cv, .slice ac kn.n.cs.length ca] := (ht8.block S (lt_of_block HN2.out) HSV.out).trans HN2.out
                  have hP8 := PX.turn HP.out HES2.out.fv.off ht8
                  have hx := boxed_below w8 (.cells #[.int .i64 nn.lv, .string nn.lo, .string nn.hi, .bool nn.la, .int .i64 nn.nx, .slice bk nn.ks.length dk, .slice bv nn.vs.length dv, .slice bc nn.cs.length dc] 41)
                  have n9 := BX.new w8 41 #[.int .i64 nn.lv, .string nn.lo, .string nn.hi, .bool nn.la, .int .i64 nn.nx, .slice bk nn.ks.length dk, .slice bv nn.vs.length dv, .slice bc nn.cs.length dc]
                  obtain ⟨G, hG⟩ : ∃ g, g = w8.heap.size := ⟨_, rfl⟩
                  rw [← hG] at n9
                  obtain ⟨W9, hW9⟩ : ∃ W, W = w8.alloc (.cells #[.int .i64 nn.lv, .string nn.lo, .string nn.hi, .bool nn.la, .int .i64 nn.nx, .slice bk nn.ks.length dk, .slice bv nn.vs.length dv, .slice bc nn.cs.length dc] 41) := ⟨_, rfl⟩
                  rw [← hW9] at hx n9
                  have hl9 := hl8.keep hx
                  have n29 := n8.below hx
                  have hbw9 : Below w.heap.size w W9 := HC.out.be.trans (hl9.be.mono HC.out.be.size)
                  have hnd2 := (PX.keep hP8 hx).nd hbw9
                  have HL9 := Lib.hid hl9
                  have HND1 := Lib.hid (hnd8.keep hx)
                  have HND2 := Lib.hid hnd2.2.2.2
                  have HHTM := Lib.hid htm
                  have HW9 := Lib.hid (show G = w8.heap.size ∧ _ from ⟨hG, hW9⟩)
                  clear c0 n8 hx hG hW9 hes8 ht8 hat hnd8 hl8 hl9 hP8 hnd2 hbw9 htm
                  have c1 : W9.cell? ⟨S, 1, none⟩ = some (.int .u64 kn.wd) := n29.cell 1 rfl
                  have c3 := n29.cell 3 rfl
                  have c4 := n29.cell 4 rfl
                  have c5 := n29.cell 5 rfl
                  have c6 := n29.cell 6 rfl
                  have c7 := n29.cell 7 rfl
                  have c8 := n29.cell 8 rfl
                  have c9 := n29.cell 9 rfl
                  have c10 := n29.cell 10 rfl
                  have d0 := n9.cell 0 rfl
                  have d1 := n9.cell 1 rfl
                  have d2 := n9.cell 2 rfl
                  have d3 := n9.cell 3 rfl
                  have d4 := n9.cell 4 rfl
                  have d5 := n9.cell 5 rfl
                  have d6 := n9.cell 6 rfl
                  have d7 := n9.cell 7 rfl
                  clear n29 n9
                  go_upto_region 40 with fail
                  rw [← HW9.out.1, ← HW9.out.2]
                  clear HW9
                  by_cases hrw : r = true ∧ kn.wd ≠ 0
                  · obtain ⟨rfl, hwd⟩ := hrw
                    obtain rfl := HHTM.out.2 rfl hwd
                    have HSM := Lib.hid (rnsame_of kn.n.lv kn.n.nx kn.n.lo kn.n.hi kn.n.la bk bv bc kn.n.ks.length dk kn.n.vs.length dv kn.n.cs.length dc kn.n.lv kn.n.nx kn.n.lo kn.n.hi kn.n.la ak av ac kn.n.ks.length ck kn.n.vs.length cv kn.n.cs.length ca kn.n.ks kn.n.vs kn.n.cs kn.n.ks kn.n.vs kn.n.cs true W9 HND1.out HND2.out ⟨fun _ => Nod.same kn.n, fun _ => rfl⟩)
                    have hwd2 : (kn.wd != 0) = true := bne_iff_ne.2 hwd
                    clear hwd
                    by_cases hqi : (q : Int) < (i : Int)
                    · go_wp2_with fail
                      refine HSM.out.mono ?_
                      rintro e w10 ⟨rfl, hb10⟩
                      have HEND := Lib.hid (HL9.out.keep hb10)
                      clear c1 c3 c4 c5 c6 c7 c8 c9 c10 d0 d1 d2 d3 d4 d5 d6 d7 hb10
                      go_wp2
                      go_roundw
                      case rel => exact ⟨q + 1, by go_num, by omega, HEND⟩
                      case measure => simp [intOf]; omega
                    · go_wp2_with fail
                      refine HSM.out.mono ?_
                      rintro e w10 ⟨rfl, hb10⟩
                      have HEND := Lib.hid (HL9.out.keep hb10)
                      clear c1 c3 c4 c5 c6 c7 c8 c9 c10 d0 d1 d2 d3 d4 d5 d6 d7 hb10
                      go_wp2
                      go_roundw
                      case rel => exact ⟨q + 1, by go_num, by omega, HEND⟩
                      case measure => simp [intOf]; omega
                  · by_cases hqi : (q : Int) < (i : Int)
                    · have h1 := HHTM.out.1 (by have := HL.out.1; omega)
                      have hwd : kn.wd = 0 := by
                        by_cases h2 : kn.wd = 0
                        · exact h2
                        · exact absurd ⟨by rw [h1, decide_eq_true h2], h2⟩ hrw
                      have hr : r = false := by rw [h1, decide_eq_false (fun h => h hwd)]
                      subst hr
                      have hwd2 : (kn.wd != 0) = false := by rw [hwd]; rfl
                      clear hwd h1 hrw
                      go_wp2
                      go_roundw
                      case rel => exact ⟨q + 1, by go_num, by omega, HL9⟩
                      case measure => simp [intOf]; omega
                    · cases r with
                      | false =>
                        clear hrw
                        go_wp2
                        go_roundw
                        case rel => exact ⟨q + 1, by go_num, by omega, HL9⟩
                        case measure => simp [intOf]; omega
                      | true =>
                        have hwd : kn.wd = 0 := by
                          by_cases h2 : kn.wd = 0
                          · exact h2
                          · exact absurd ⟨rfl, h2⟩ hrw
                        have hwd2 : (kn.wd != 0) = false := by rw [hwd]; rfl
                        clear hwd hrw
                        go_wp2
                        go_roundw
                        case rel => exact ⟨q + 1, by go_num, by omega, HL9⟩
                        case measure => simp [intOf]; omega
                · obtain rfl : q = xn := by omega
                  go_wp2_with fail
                  refine (HLV.out _).mono ?_
                  rintro e w9 ⟨rfl, hb9⟩
                  have HX9 := Lib.hid (HXB.out.trans (hb9.mono HXB.out.size))
                  clear hb9
                  go_wp2
                  go_ret
                  exact ⟨rfl, HX9.out⟩
end Go.Proofs.Ytdbklklmpnlinaa
