/- The law ForestPlays, walked. -/
import Derived.Test.YtefmnfplipdnmaaFrState
import Derived.Test.YtefmnfplipdnmaaFrLike
import Derived.Test.YtefmnfplipdnmaaFrLives
import Derived.Test.YtefmnfplipdnmaaNodeRSame
import Derived.Deep.DeepCutAuto
import Derived.Deep.CutBlock
namespace Go.Proofs.Ytefmnfplipdnmaa
open Go.RowKit Go.Maps

set_option maxHeartbeats 8000000 in
set_option maxRecDepth 100000 in
theorem forestPlays_any (ao : Option Addr) (n c : Nat) (al : List Ac) (w : World) (h : AcsAt w (.slice ao n c) al) (hw : ∀ j, j < n → (Lit.int .i64 (acAt al j).n).wf = true ∧ (Lit.int .i64 (acAt al j).kn.c).wf = true) (hl : n = al.length) :
    Calls Try.prog 3 #[.slice ao n c] w fun e w' => e = .returned (.bool true) ∧ Below w.heap.size w w' := by
  have HLV := Lib.hid (fun W => lives14 W)
  have HNew := Lib.hid (new_fv w)
  have HA := Lib.hid h
  have HWF := Lib.hid hw
  have hnb : n ≤ 9223372036854775807 := by
    obtain ⟨_, _, e, h1, h2, _⟩ := h
    injection e with _ e _
    omega
  clear h hw hl
  by_cases h60 : (n : Int) > 60
  · go_enter Try.func3, Try.ntmps3
    go_wp2_with fail
    refine (HLV.out _).mono ?_
    rintro e w9 ⟨rfl, hb9⟩
    have HX9 := Lib.hid hb9
    clear hb9
    go_wp2
    go_ret
    exact ⟨rfl, HX9.out⟩
  · go_enter Try.func3, Try.ntmps3
    go_wp2_with fail
    refine HNew.out.mono ?_
    rintro e w2 ⟨A, b, rfl, hf2, hb2⟩
    have hx := boxed_below w2 (.cells #[.slice none 0 0, .slice none 0 0, .int .i64 0, .int .i64 0] 31)
    have n1 := BX.new w2 31 #[.slice none 0 0, .slice none 0 0, .int .i64 0, .int .i64 0]
    obtain ⟨G, hG⟩ : ∃ G, G = w2.heap.size := ⟨_, rfl⟩
    have HS3 := Lib.hid (show ST w A b G (w2.alloc (.cells #[.slice none 0 0, .slice none 0 0, .int .i64 0, .int .i64 0] 31)) 0 from ⟨⟨none, 0, 0, 0, none, 0, 0, none, 0, 0, [], [], 0, 0, hf2.keep hx, ⟨by rw [hG]; exact n1, KsR.nil _ _ _, World.ownsRow_nil _ _ _ _, rfl, fun g hg => by simp [Value.ownBlock] at hg, by rw [hG]; exact not_vs hf2 (Nat.le_refl _), by rw [hG]; exact hb2.size⟩, KsOk.nil, Nat.le_refl _, Nat.le_refl _, Nat.le_refl _⟩, hb2.trans (hx.mono hb2.size)⟩)
    have HG := Lib.hid hG
    clear hf2 hb2 hx n1 hG
    go_upto_region 5 with fail
    rw [← HG.out]
    obtain ⟨W3, hW3⟩ : ∃ W, W = w2.alloc (.cells #[.slice none 0 0, .slice none 0 0, .int .i64 0, .int .i64 0] 31) := ⟨_, rfl⟩
    rw [← hW3] at HS3 ⊢
    clear hW3 HNew
    go_wp2
    go_loopw [21] (fun s wr => ∃ i : Nat, s = .int .i64 i ∧ i ≤ n ∧ Hid (ST w A b G wr i)) (fun s _ => n - (intOf s).toNat)
    case atStart => exact ⟨0, rfl, Nat.zero_le _, HS3⟩
    case round =>
      obtain ⟨i, rfl, hi, HS⟩ := hrel
      by_cases hlt : i < n
      · have hlt' : (i : Int) < n := by omega
        obtain ⟨g, o, ak, nk, ck, av, nv, cv, ac, nc, cc, rfl, hP, hc⟩ := HA.out.get hlt
        have hb := HS.out.below
        obtain ⟨q0, q1, q2, q3, q4, q5, q6, q7, q8, q9, q10, q11, q12⟩ := hc _ hb
        obtain ⟨rfl, rfl, rfl, hnd⟩ := PV.ndF hP
        obtain ⟨wfn, wfc⟩ := HWF.out i hlt
        obtain ⟨kn, hkn⟩ : ∃ kn, kn = (acAt al i).kn := ⟨_, rfl⟩
        obtain ⟨kd, hkd⟩ : ∃ kd, kd = (acAt al i).kd := ⟨_, rfl⟩
        obtain ⟨nn, hnn⟩ : ∃ nn, nn = (acAt al i).n := ⟨_, rfl⟩
        rw [← hkn] at q2 q3 q4 q5 q6 q7 q8 q9 q10 q11 q12 hP hnd wfc
        rw [← hkd] at q0
        rw [← hnn] at q1 wfn
        have hx := boxed_below wr (.cells #[.int .i64 kd, .int .i64 nn, .int .i64 kn.c, .int .u64 kn.wd, .int .u64 kn.vr, .int .i64 kn.n.lv, .string kn.n.lo, .string kn.n.hi, .bool kn.n.la, .int .i64 kn.n.nx, .slice ak kn.n.ks.length ck, .slice av kn.n.vs.length cv, .slice ac kn.n.cs.length cc] 41)
        have n4 := BX.new wr 41 #[.int .i64 kd, .int .i64 nn, .int .i64 kn.c, .int .u64 kn.wd, .int .u64 kn.vr, .int .i64 kn.n.lv, .string kn.n.lo, .string kn.n.hi, .bool kn.n.la, .int .i64 kn.n.nx, .slice ak kn.n.ks.length ck, .slice av kn.n.vs.length cv, .slice ac kn.n.cs.length cc]
        have HWFN := Lib.hid wfn
        have HWFC := Lib.hid wfc
        have HPV := Lib.hid hP
        have HND := Lib.hid hnd
        obtain ⟨G4, hG4⟩ : ∃ G4, G4 = wr.heap.size := ⟨_, rfl⟩
        have hbig : kn.n.vs.length ≤ 9223372036854775807 ∧ kn.n.cs.length ≤ 9223372036854775807 := by
          have h1 := rd_len hnd.v
          have h2 := rd_len hnd.c
          omega
        have HBIG := Lib.hid hbig
        have HG4 := Lib.hid hG4
        rw [← hG4] at n4
        clear hkn hkd hnn hc hP hnd wfn wfc hb hbig hG4
        go_upto_region 8 with fail
        rw [← HG4.out]
        obtain ⟨W4, hW4⟩ : ∃ W, W = wr.alloc (.cells #[.int .i64 kd, .int .i64 nn, .int .i64 kn.c, .int .u64 kn.wd, .int .u64 kn.vr, .int .i64 kn.n.lv, .string kn.n.lo, .string kn.n.hi, .bool kn.n.la, .int .i64 kn.n.nx, .slice ak kn.n.ks.length ck, .slice av kn.n.vs.length cv, .slice ac kn.n.cs.length cc] 41) := ⟨_, rfl⟩
        rw [← hW4] at n4 hx ⊢
        have hX4 := HS.out.below.trans (hx.mono HS.out.below.size)
        have HX4 := Lib.hid hX4
        have HB4 := Lib.hid hx
        have HN4 := Lib.hid n4
        have HLT := Lib.hid (nlight_any kn.n.lv kn.n.nx kn.n.lo kn.n.hi kn.n.la ak av ac kn.n.ks.length ck kn.n.vs.length cv kn.n.cs.length cc kn.n.ks W4 (HND.out.keep hX4).k HBIG.out.1 HBIG.out.2)
        have a0 := n4.cell 0 rfl
        have a1 := n4.cell 1 rfl
        have a2 := n4.cell 2 rfl
        have a3 := n4.cell 3 rfl
        have a4 := n4.cell 4 rfl
        have a5 := n4.cell 5 rfl
        have a6 := n4.cell 6 rfl
        have a7 := n4.cell 7 rfl
        have a8 := n4.cell 8 rfl
        have a9 := n4.cell 9 rfl
        have a10 := n4.cell 10 rfl
        have a11 := n4.cell 11 rfl
        have a12 := n4.cell 12 rfl
        clear q0 q1 q2 q3 q4 q5 q6 q7 q8 q9 q10 q11 q12 hW4 n4 hx hX4
        go_wp2_with fail
        refine HLT.out.mono ?_
        rintro e w5 ⟨r, rfl, hr, hb5⟩
        have HX5 := Lib.hid (HX4.out.trans (hb5.mono HX4.out.size))
        have HB5 := Lib.hid (HB4.out.trans (hb5.mono HB4.out.size))
        have n5 := HN4.out.below hb5
        have HN5 := Lib.hid n5
        have HR := Lib.hid hr
        clear a0 a1 a2 a3 a4 a5 a6 a7 a8 a9 a10 a11 a12 hb5 HN4 HX4 HB4 HLT hr
        cases r with
        | false =>
          clear n5
          go_wp2_with fail
          refine (HLV.out _).mono ?_
          rintro e w9 ⟨rfl, hb9⟩
          have HX9 := Lib.hid (HX5.out.trans (hb9.mono HX5.out.size))
          clear hb9
          go_wp2
          go_ret
          exact ⟨rfl, HX9.out⟩
        | true =>
          have HLI := Lib.hid (HR.out.1 rfl)
          obtain ⟨so, sn, sc, N, lo, ln, lc, po, pn, pc, ks, ss, k, m, hf, hd, hok, hN, hkl, hsl⟩ := HS.out.ex
          have HNV := Lib.hid (show ¬ VS A b (.slice so sn sc) G4 from not_vs hf (by rw [HG4.out]; exact Nat.le_refl _))
          have HF := Lib.hid (hf.keep HB5.out)
          have HD := Lib.hid (hd.keep HB5.out)
          have HOK := Lib.hid hok
          have HSZ := Lib.hid (show N ≤ i ∧ ks.length ≤ i ∧ ss.length ≤ i from ⟨hN, hkl, hsl⟩)
          have HKV := Lib.hid (show KnV w5 (.agg #[.int .i64 kn.c, .int .u64 kn.wd, .int .u64 kn.vr, .int .i64 kn.n.lv, .string kn.n.lo, .string kn.n.hi, .bool kn.n.la, .int .i64 kn.n.nx, .slice ak kn.n.ks.length ck, .slice av kn.n.vs.length cv, .slice ac kn.n.cs.length cc]) kn from KnV.keep HPV.out HX5.out)
          have v0 := HD.out.box.cell 0 rfl
          have v1 := HD.out.box.cell 1 rfl
          have v2 := HD.out.box.cell 2 rfl
          have v3 := HD.out.box.cell 3 rfl
          have a0 := n5.cell 0 rfl
          have a1 := n5.cell 1 rfl
          have a2 := n5.cell 2 rfl
          have a3 := n5.cell 3 rfl
          have a4 := n5.cell 4 rfl
          have a5 := n5.cell 5 rfl
          have a6 := n5.cell 6 rfl
          have a7 := n5.cell 7 rfl
          have a8 := n5.cell 8 rfl
          have a9 := n5.cell 9 rfl
          have a10 := n5.cell 10 rfl
          have a11 := n5.cell 11 rfl
          have a12 := n5.cell 12 rfl
          clear HR HS n5 hf hd hok hN hkl hsl
          go_upto_block 2 with fail
          go_cut [7, 8] (fun s7 s8 wx => ∃ bb : Bool, s7 = .bool bb ∧ s8 = .bool bb ∧ Hid (ST w A b G wx (i + 1)))
          case first =>
            clear HA HWF HLV
            have HF5 := HF
            have HD5 := HD
            clear HF HD
            by_cases e0 : kd = 0
            · subst e0
              cases hcb : cellB kn.c with
              | false =>
                have HQ1 := Lib.hid (learn_outF kn _ w5 hcb HF5.out HKV.out)
                have HQ2 := Lib.hid (fun W => rlearn_no lo ln lc po pn pc k m kn ak kn.n.ks.length ck av kn.n.vs.length cv ac kn.n.cs.length cc W hcb)
                clear hcb
                go_wp2_with fail
                refine HQ1.out.mono ?_
                rintro e w6 ⟨rfl, hf6, hb6⟩
                have HF6 := Lib.hid (HF5.out.keep hb6)
                have HD6 := Lib.hid (HD5.out.keep hb6)
                have HN6 := Lib.hid (HN5.out.below hb6)
                have HX6 := Lib.hid (HX5.out.trans (hb6.mono HX5.out.size))
                clear hf6 hb6 a0 a1 a2 a3 a4 a5 a6 a7 a8 a9 a10 a11 a12 v0 v1 v2 v3
                have a0 := HN6.out.cell 0 rfl
                have a1 := HN6.out.cell 1 rfl
                have a2 := HN6.out.cell 2 rfl
                have a3 := HN6.out.cell 3 rfl
                have a4 := HN6.out.cell 4 rfl
                have a5 := HN6.out.cell 5 rfl
                have a6 := HN6.out.cell 6 rfl
                have a7 := HN6.out.cell 7 rfl
                have a8 := HN6.out.cell 8 rfl
                have a9 := HN6.out.cell 9 rfl
                have a10 := HN6.out.cell 10 rfl
                have a11 := HN6.out.cell 11 rfl
                have a12 := HN6.out.cell 12 rfl
                have v0 := HD6.out.box.cell 0 rfl
                have v1 := HD6.out.box.cell 1 rfl
                have v2 := HD6.out.box.cell 2 rfl
                have v3 := HD6.out.box.cell 3 rfl
                go_wp2_with fail
                refine (HQ2.out _).mono ?_
                rintro e w7 ⟨rfl, hb7⟩
                have HF7 := Lib.hid (HF6.out.keep hb7)
                have HD7 := Lib.hid (HD6.out.keep hb7)
                have HN7 := Lib.hid (HN6.out.below hb7)
                have HX7 := Lib.hid (HX6.out.trans (hb7.mono HX6.out.size))
                clear hb7 a0 a1 a2 a3 a4 a5 a6 a7 a8 a9 a10 a11 a12 v0 v1 v2 v3
                have v0 := HD7.out.box.cell 0 rfl
                have v1 := HD7.out.box.cell 1 rfl
                have v2 := HD7.out.box.cell 2 rfl
                have v3 := HD7.out.box.cell 3 rfl
                have y0 := HD7.out.box.frozen 0
                have y1 := HD7.out.box.frozen 1
                have y2 := HD7.out.box.frozen 2
                have y3 := HD7.out.box.frozen 3
                go_wp2_with fail
                go_meet
                have hz := st_end (i := i + 1) HF7.out HD7.out HD7.out.row HD7.out.spr HD7.out.len HD7.out.off HOK.out ⟨by have := HSZ.out; omega, by have := HSZ.out; omega, by have := HSZ.out; omega⟩ HX7.out
                exact ⟨false, rfl, rfl, Lib.hid hz⟩
              | true =>
                have HQ1 := Lib.hid (learn_fv kn _ w5 HWFC.out hcb (by have := HSZ.out; omega) HF5.out HKV.out ⟨by have := HLI.out.n; omega, by have := HLI.out.n; omega, by have := HLI.out.n; omega⟩)
                have HCB := Lib.hid hcb
                clear hcb
                go_wp2_with fail
                refine HQ1.out.mono ?_
                rintro e w6 ⟨rfl, hf6, ht6⟩
                have HF6 := Lib.hid hf6
                have HD6 := Lib.hid (HD5.out.turn ht6 HF5.out.noKn (fun _ _ h => h))
                have HN6 := Lib.hid (show BX w6 G4 _ _ from (ht6.block G4 (lt_of_block HN5.out) HNV.out).trans HN5.out)
                have HX6 := Lib.hid (HX5.out.trans (ht6.below HF5.out.base HX5.out.size))
                clear hf6 ht6 a0 a1 a2 a3 a4 a5 a6 a7 a8 a9 a10 a11 a12 v0 v1 v2 v3
                have a0 := HN6.out.cell 0 rfl
                have a1 := HN6.out.cell 1 rfl
                have a2 := HN6.out.cell 2 rfl
                have a3 := HN6.out.cell 3 rfl
                have a4 := HN6.out.cell 4 rfl
                have a5 := HN6.out.cell 5 rfl
                have a6 := HN6.out.cell 6 rfl
                have a7 := HN6.out.cell 7 rfl
                have a8 := HN6.out.cell 8 rfl
                have a9 := HN6.out.cell 9 rfl
                have a10 := HN6.out.cell 10 rfl
                have a11 := HN6.out.cell 11 rfl
                have a12 := HN6.out.cell 12 rfl
                have v0 := HD6.out.box.cell 0 rfl
                have v1 := HD6.out.box.cell 1 rfl
                have v2 := HD6.out.box.cell 2 rfl
                have v3 := HD6.out.box.cell 3 rfl
                have HQ2 := Lib.hid (rlearn_yes lo ln lc po pn pc k m ks kn ak kn.n.ks.length ck av kn.n.vs.length cv ac kn.n.cs.length cc w6 HCB.out HD6.out.row.ks (by have := HD6.out.row.ks.len.1; have := HSZ.out; omega) HPV.out)
                go_wp2_with fail
                refine HQ2.out.mono ?_
                rintro e w7 ⟨⟨lo2, ln2, lc2, rfl, hk7⟩, hb7⟩
                have HK7 := Lib.hid (hk7.base (C := w.heap.size) HX6.out.size)
                have HF7 := Lib.hid (HF6.out.keep hb7)
                have HD7 := Lib.hid (HD6.out.keep hb7)
                have HN7 := Lib.hid (HN6.out.below hb7)
                have HX7 := Lib.hid (HX6.out.trans (hb7.mono HX6.out.size))
                clear hk7 hb7 a0 a1 a2 a3 a4 a5 a6 a7 a8 a9 a10 a11 a12 v0 v1 v2 v3
                have v0 := HD7.out.box.cell 0 rfl
                have v1 := HD7.out.box.cell 1 rfl
                have v2 := HD7.out.box.cell 2 rfl
                have v3 := HD7.out.box.cell 3 rfl
                have y0 := HD7.out.box.frozen 0
                have y1 := HD7.out.box.frozen 1
                have y2 := HD7.out.box.frozen 2
                have y3 := HD7.out.box.frozen 3
                go_wp2_with fail
                go_meet
                have hle : (kdrop ks kn.c ++ [kn]).length ≤ i + 1 := by
                  have h1 := kdrop_le ks kn.c
                  have h2 := HSZ.out
                  rw [List.length_append, List.length_singleton]
                  omega
                have hz := st_end (i := i + 1) HF7.out HD7.out HK7.out HD7.out.spr HD7.out.len HD7.out.off (HOK.out.put HCB.out) ⟨by have := HSZ.out; omega, hle, by have := HSZ.out; omega⟩ HX7.out
                exact ⟨true, rfl, rfl, Lib.hid hz⟩
            have z0 : (kd == 0) = false := beq_eq_false_iff_ne.2 e0
            clear e0
            by_cases e1 : kd = 1
            · subst e1
              have hx6 := boxed_below w5 (.cells #[.int .i64 kn.c, .int .u64 kn.vr] 47)
              have n9 := BX.new w5 47 #[.int .i64 kn.c, .int .u64 kn.vr]
              obtain ⟨G9, hG9⟩ : ∃ G9, G9 = w5.heap.size := ⟨_, rfl⟩
              rw [← hG9] at n9
              have HG9 := Lib.hid hG9
              have HNV9 := Lib.hid (show ¬ VS A b (.slice so sn sc) G9 from not_vs HF5.out (by rw [hG9]; exact Nat.le_refl _))
              clear hG9
              go_upto_region 17 with fail
              rw [← HG9.out]
              obtain ⟨w6, hw6⟩ : ∃ W, W = w5.alloc (.cells #[.int .i64 kn.c, .int .u64 kn.vr] 47) := ⟨_, rfl⟩
              rw [← hw6] at hx6 n9 ⊢
              have HF6 := Lib.hid (HF5.out.keep hx6)
              have HD6 := Lib.hid (HD5.out.keep hx6)
              have HN6 := Lib.hid (HN5.out.below hx6)
              have HX6 := Lib.hid (HX5.out.trans (hx6.mono HX5.out.size))
              have HS9 := Lib.hid n9
              clear hx6 hw6 n9 a0 a1 a2 a3 a4 a5 a6 a7 a8 a9 a10 a11 a12 v0 v1 v2 v3
              have a0 := HN6.out.cell 0 rfl
              have a1 := HN6.out.cell 1 rfl
              have a2 := HN6.out.cell 2 rfl
              have a3 := HN6.out.cell 3 rfl
              have a4 := HN6.out.cell 4 rfl
              have a5 := HN6.out.cell 5 rfl
              have a6 := HN6.out.cell 6 rfl
              have a7 := HN6.out.cell 7 rfl
              have a8 := HN6.out.cell 8 rfl
              have a9 := HN6.out.cell 9 rfl
              have a10 := HN6.out.cell 10 rfl
              have a11 := HN6.out.cell 11 rfl
              have a12 := HN6.out.cell 12 rfl
              have v0 := HD6.out.box.cell 0 rfl
              have v1 := HD6.out.box.cell 1 rfl
              have v2 := HD6.out.box.cell 2 rfl
              have v3 := HD6.out.box.cell 3 rfl
              have s0 := HS9.out.cell 0 rfl
              have s1 := HS9.out.cell 1 rfl
              by_cases hno : cellB kn.c = false ∨ (cellB kn.c = true ∧ hasS ss kn.c = true)
              · have HQ1 := Lib.hid (spare_out kn.c kn.vr w6 hno HF6.out)
                have HQ2 := Lib.hid (fun W h => rspare_out lo ln lc po pn pc k m kn.c kn.vr ss W h hno)
                clear hno
                go_wp2_with fail
                refine HQ1.out.mono ?_
                rintro e w7 ⟨rfl, hb7⟩
                have HF7 := Lib.hid (HF6.out.keep hb7)
                have HD7 := Lib.hid (HD6.out.keep hb7)
                have HN7 := Lib.hid (HN6.out.below hb7)
                have HX7 := Lib.hid (HX6.out.trans (hb7.mono HX6.out.size))
                have HS97 := Lib.hid (HS9.out.below hb7)
                clear hb7 a0 a1 a2 a3 a4 a5 a6 a7 a8 a9 a10 a11 a12 v0 v1 v2 v3 s0 s1
                have a0 := HN7.out.cell 0 rfl
                have a1 := HN7.out.cell 1 rfl
                have a2 := HN7.out.cell 2 rfl
                have a3 := HN7.out.cell 3 rfl
                have a4 := HN7.out.cell 4 rfl
                have a5 := HN7.out.cell 5 rfl
                have a6 := HN7.out.cell 6 rfl
                have a7 := HN7.out.cell 7 rfl
                have a8 := HN7.out.cell 8 rfl
                have a9 := HN7.out.cell 9 rfl
                have a10 := HN7.out.cell 10 rfl
                have a11 := HN7.out.cell 11 rfl
                have a12 := HN7.out.cell 12 rfl
                have v0 := HD7.out.box.cell 0 rfl
                have v1 := HD7.out.box.cell 1 rfl
                have v2 := HD7.out.box.cell 2 rfl
                have v3 := HD7.out.box.cell 3 rfl
                have s0 := HS97.out.cell 0 rfl
                have s1 := HS97.out.cell 1 rfl
                go_wp2_with fail
                refine (HQ2.out _ HD7.out.spk).mono ?_
                rintro e w8 ⟨rfl, hb8⟩
                have HF8 := Lib.hid (HF7.out.keep hb8)
                have HD8 := Lib.hid (HD7.out.keep hb8)
                have HN8 := Lib.hid (HN7.out.below hb8)
                have HX8 := Lib.hid (HX7.out.trans (hb8.mono HX7.out.size))
                clear hb8 a0 a1 a2 a3 a4 a5 a6 a7 a8 a9 a10 a11 a12 v0 v1 v2 v3 s0 s1
                have v0 := HD8.out.box.cell 0 rfl
                have v1 := HD8.out.box.cell 1 rfl
                have v2 := HD8.out.box.cell 2 rfl
                have v3 := HD8.out.box.cell 3 rfl
                have y0 := HD8.out.box.frozen 0
                have y1 := HD8.out.box.frozen 1
                have y2 := HD8.out.box.frozen 2
                have y3 := HD8.out.box.frozen 3
                go_wp2_with fail
                go_meet
                have hz := st_end (i := i + 1) HF8.out HD8.out HD8.out.row HD8.out.spr HD8.out.len HD8.out.off HOK.out ⟨by have := HSZ.out; omega, by have := HSZ.out; omega, by have := HSZ.out; omega⟩ HX8.out
                exact ⟨false, rfl, rfl, Lib.hid hz⟩
              · have hcb : cellB kn.c = true := by
                  cases h : cellB kn.c with
                  | true => rfl
                  | false => exact absurd (Or.inl h) hno
                have hnew : hasS ss kn.c = false := by
                  cases h : hasS ss kn.c with
                  | false => rfl
                  | true => exact absurd (Or.inr ⟨hcb, h⟩) hno
                have HQ1 := Lib.hid (spare_add kn.c kn.vr w6 hcb hnew (by have := HSZ.out; omega) HF6.out)
                have HC := Lib.hid (show _ ∧ _ from ⟨hcb, hnew⟩)
                clear hno hcb hnew
                go_wp2_with fail
                refine HQ1.out.mono ?_
                rintro e w7 ⟨g7, c7, rfl, hf7, ht7, hl7⟩
                have HL7 := Lib.hid (show ∀ g, g < w6.heap.size → VS A b (.slice (some ⟨g7, 0, none⟩) (ss.length + 1) c7) g → VS A b (.slice so sn sc) g from fun g hg hv => by
                  rcases hv with h | h | h
                  · exact Or.inl h
                  · exact Or.inr (Or.inl h)
                  · have e : g7 = g := by simpa [Value.ownBlock] using h
                    subst e
                    rcases hl7 with h7 | h7
                    · exact Or.inr (Or.inr h7)
                    · omega)
                have HF7 := Lib.hid hf7
                have HD7 := Lib.hid (HD6.out.turn ht7 HF6.out.noKn HL7.out)
                have HX7 := Lib.hid (HX6.out.trans (ht7.below HF6.out.base HX6.out.size))
                have HS97 := Lib.hid (show BX w7 G9 _ _ from (ht7.block G9 (lt_of_block HS9.out) HNV9.out).trans HS9.out)
                clear hf7 ht7 hl7 a0 a1 a2 a3 a4 a5 a6 a7 a8 a9 a10 a11 a12 v0 v1 v2 v3 s0 s1
                have v0 := HD7.out.box.cell 0 rfl
                have v1 := HD7.out.box.cell 1 rfl
                have v2 := HD7.out.box.cell 2 rfl
                have v3 := HD7.out.box.cell 3 rfl
                have s0 := HS97.out.cell 0 rfl
                have s1 := HS97.out.cell 1 rfl
                have HQ2 := Lib.hid (rspare_add lo ln lc po pn pc k m kn.c kn.vr ss w7 HD7.out.spk HC.out.1 HC.out.2 HD7.out.nil (by have := HD7.out.len; have := HSZ.out; omega))
                go_wp2_with fail
                refine HQ2.out.mono ?_
                rintro e w8 ⟨⟨ro, rn, rc, rfl, ho8, hn8, hr8⟩, hb8⟩
                have HO8 := Lib.hid ho8
                have HN8 := Lib.hid hn8
                have HF8 := Lib.hid (HF7.out.keep hb8)
                have HD8 := Lib.hid (HD7.out.keep hb8)
                have HX8 := Lib.hid (HX7.out.trans (hb8.mono HX7.out.size))
                have HOF := Lib.hid (show ∀ g, (Value.slice ro rn rc).ownBlock = some g → ¬ VS A b (.slice (some ⟨g7, 0, none⟩) (ss.length + 1) c7) g from fun g hg => not_vs HF7.out (fv_block ho8 hg).1)
                clear ho8 hn8 hr8 hb8 v0 v1 v2 v3 s0 s1
                have v0 := HD8.out.box.cell 0 rfl
                have v1 := HD8.out.box.cell 1 rfl
                have v2 := HD8.out.box.cell 2 rfl
                have v3 := HD8.out.box.cell 3 rfl
                have y0 := HD8.out.box.frozen 0
                have y1 := HD8.out.box.frozen 1
                have y2 := HD8.out.box.frozen 2
                have y3 := HD8.out.box.frozen 3
                go_wp2_with fail
                go_meet
                have hz := st_end (i := i + 1) HF8.out HD8.out HD8.out.row (fv_base HO8.out HX7.out.size) (by rw [HN8.out, List.length_append, List.length_singleton]) HOF.out HOK.out ⟨by have := HSZ.out; omega, by have := HSZ.out; omega, by have := HSZ.out; rw [List.length_append, List.length_singleton]; omega⟩ HX8.out
                exact ⟨true, rfl, rfl, Lib.hid hz⟩
            have z1 : (kd == 1) = false := beq_eq_false_iff_ne.2 e1
            clear e1
            by_cases e2 : kd = 2
            · subst e2
              have HQ1 := Lib.hid (forget_fv nn w5 HWFN.out HF5.out)
              obtain ⟨bb, hbb⟩ : ∃ bb, bb = (kfind ks nn).isSome := ⟨_, rfl⟩
              rw [← hbb] at HQ1
              have HBB := Lib.hid hbb
              clear hbb
              go_wp2_with fail
              refine HQ1.out.mono ?_
              rintro e w6 ⟨rfl, hf6, ht6⟩
              have HF6 := Lib.hid hf6
              have HD6 := Lib.hid (HD5.out.turn ht6 HF5.out.noKn (fun _ _ h => h))
              have HN6 := Lib.hid (show BX w6 G4 _ _ from (ht6.block G4 (lt_of_block HN5.out) HNV.out).trans HN5.out)
              have HX6 := Lib.hid (HX5.out.trans (ht6.below HF5.out.base HX5.out.size))
              clear hf6 ht6 a0 a1 a2 a3 a4 a5 a6 a7 a8 a9 a10 a11 a12 v0 v1 v2 v3
              have a0 := HN6.out.cell 0 rfl
              have a1 := HN6.out.cell 1 rfl
              have a2 := HN6.out.cell 2 rfl
              have a3 := HN6.out.cell 3 rfl
              have a4 := HN6.out.cell 4 rfl
              have a5 := HN6.out.cell 5 rfl
              have a6 := HN6.out.cell 6 rfl
              have a7 := HN6.out.cell 7 rfl
              have a8 := HN6.out.cell 8 rfl
              have a9 := HN6.out.cell 9 rfl
              have a10 := HN6.out.cell 10 rfl
              have a11 := HN6.out.cell 11 rfl
              have a12 := HN6.out.cell 12 rfl
              have v0 := HD6.out.box.cell 0 rfl
              have v1 := HD6.out.box.cell 1 rfl
              have v2 := HD6.out.box.cell 2 rfl
              have v3 := HD6.out.box.cell 3 rfl
              have HQ2 := Lib.hid (rfind_any lo ln lc po pn pc k m nn ks w6 HD6.out.row.ks)
              obtain ⟨z, hz⟩ : ∃ z, z = kidx ks nn := ⟨_, rfl⟩
              rw [← hz] at HQ2
              have hzz : (bb = true ∧ 0 ≤ z) ∨ (bb = false ∧ ¬ 0 ≤ z) := by
                rcases kidx_cases ks nn with ⟨h1, h2⟩ | ⟨j, _, h1, h2⟩
                · right
                  rw [HBB.out, h2, hz, h1]
                  exact ⟨rfl, by omega⟩
                · left
                  rw [HBB.out, h2, hz, h1]
                  exact ⟨rfl, by omega⟩
              clear hz HBB
              go_wp2_with fail
              refine HQ2.out.mono ?_
              rintro e w7 ⟨rfl, hb7⟩
              have HF7 := Lib.hid (HF6.out.keep hb7)
              have HD7 := Lib.hid (HD6.out.keep hb7)
              have HN7 := Lib.hid (HN6.out.below hb7)
              have HX7 := Lib.hid (HX6.out.trans (hb7.mono HX6.out.size))
              clear hb7 a0 a1 a2 a3 a4 a5 a6 a7 a8 a9 a10 a11 a12 v0 v1 v2 v3
              have a0 := HN7.out.cell 0 rfl
              have a1 := HN7.out.cell 1 rfl
              have a2 := HN7.out.cell 2 rfl
              have a3 := HN7.out.cell 3 rfl
              have a4 := HN7.out.cell 4 rfl
              have a5 := HN7.out.cell 5 rfl
              have a6 := HN7.out.cell 6 rfl
              have a7 := HN7.out.cell 7 rfl
              have a8 := HN7.out.cell 8 rfl
              have a9 := HN7.out.cell 9 rfl
              have a10 := HN7.out.cell 10 rfl
              have a11 := HN7.out.cell 11 rfl
              have a12 := HN7.out.cell 12 rfl
              have v0 := HD7.out.box.cell 0 rfl
              have v1 := HD7.out.box.cell 1 rfl
              have v2 := HD7.out.box.cell 2 rfl
              have v3 := HD7.out.box.cell 3 rfl
              have HQ3 := Lib.hid (rforget_any lo ln lc po pn pc k m nn ks w7 HD7.out.row.ks (by have := HD7.out.row.ks.len.1; have := HSZ.out; omega))
              rcases hzz with ⟨rfl, hzz⟩ | ⟨rfl, hzz⟩
              all_goals
                go_wp2_with fail
                refine HQ3.out.mono ?_
                rintro e w8 ⟨⟨lo2, ln2, lc2, rfl, hk8⟩, hb8⟩
                have HK8 := Lib.hid (hk8.base (C := w.heap.size) HX7.out.size)
                have HF8 := Lib.hid (HF7.out.keep hb8)
                have HD8 := Lib.hid (HD7.out.keep hb8)
                have HN8 := Lib.hid (HN7.out.below hb8)
                have HX8 := Lib.hid (HX7.out.trans (hb8.mono HX7.out.size))
                clear hk8 hb8 a0 a1 a2 a3 a4 a5 a6 a7 a8 a9 a10 a11 a12 v0 v1 v2 v3
                have v0 := HD8.out.box.cell 0 rfl
                have v1 := HD8.out.box.cell 1 rfl
                have v2 := HD8.out.box.cell 2 rfl
                have v3 := HD8.out.box.cell 3 rfl
                have y0 := HD8.out.box.frozen 0
                have y1 := HD8.out.box.frozen 1
                have y2 := HD8.out.box.frozen 2
                have y3 := HD8.out.box.frozen 3
                go_wp2_with fail
                go_meet
                have hz := st_end (i := i + 1) HF8.out HD8.out HK8.out HD8.out.spr HD8.out.len HD8.out.off (HOK.out.drop nn) ⟨by have := HSZ.out; omega, by have := HSZ.out; have := kdrop_le ks nn; omega, by have := HSZ.out; omega⟩ HX8.out
                first | exact ⟨true, rfl, rfl, Lib.hid hz⟩ | exact ⟨false, rfl, by rw [decide_eq_false (by omega)], Lib.hid hz⟩
            have z2 : (kd == 2) = false := beq_eq_false_iff_ne.2 e2
            clear e2
            by_cases e3 : kd = 3
            · subst e3
              obtain ⟨w6, hw6, b10, b11, hx6⟩ := bx2 w5 39 39 #[.int .i64 0, .int .u64 0, .int .u64 0, .int .i64 0, .string ⟨#[]⟩, .string ⟨#[]⟩, .bool false, .int .i64 0, .slice none 0 0, .slice none 0 0, .slice none 0 0] #[.int .i64 0, .int .u64 0, .int .u64 0, .int .i64 0, .string ⟨#[]⟩, .string ⟨#[]⟩, .bool false, .int .i64 0, .slice none 0 0, .slice none 0 0, .slice none 0 0]
              obtain ⟨G10, hG10⟩ : ∃ g, g = w5.heap.size := ⟨_, rfl⟩
              obtain ⟨G11, hG11⟩ : ∃ g, g = w5.heap.size + 1 := ⟨_, rfl⟩
              rw [← hG10] at b10
              rw [← hG11] at b11
              have hsz6 : w6.heap.size = w5.heap.size + 1 + 1 := by rw [hw6, World.size_alloc, World.size_alloc]
              have hGG : G < w5.heap.size := lt_of_block HD5.out.box
              have HGN := Lib.hid (show G10 = w5.heap.size ∧ G11 = w5.heap.size + 1 ∧ w6.heap.size = w5.heap.size + 1 + 1 ∧ G < w5.heap.size ∧ G4 < w5.heap.size from ⟨hG10, hG11, hsz6, hGG, lt_of_block HN5.out⟩)
              have hne1 : G ≠ G10 := by omega
              have hne1' : G10 ≠ G := by omega
              have hne2 : G ≠ G11 := by omega
              have hne2' : G11 ≠ G := by omega
              have hne3 : G10 ≠ G11 := by omega
              have hne3' : G11 ≠ G10 := by omega
              have HNV10 := Lib.hid (show ¬ VS A b (.slice so sn sc) G10 from not_vs HF5.out (by rw [hG10]; exact Nat.le_refl _))
              have HNV11 := Lib.hid (show ¬ VS A b (.slice so sn sc) G11 from not_vs HF5.out (by omega))
              have HB10 := Lib.hid b10
              have HB11 := Lib.hid b11
              have HW6 := Lib.hid hw6
              have HF6 := Lib.hid (HF5.out.keep hx6)
              have HD6 := Lib.hid (HD5.out.keep hx6)
              have HN6 := Lib.hid (HN5.out.below hx6)
              have HX6 := Lib.hid (HX5.out.trans (hx6.mono HX5.out.size))
              have HT6 := Lib.hid (Turn.of (S := fun g => VS A b (.slice so sn sc) g ∨ g = G) hx6)
              clear b10 b11 hw6 hx6 hsz6 hGG hG10 hG11 a0 a1 a2 a3 a4 a5 a6 a7 a8 a9 a10 a11 a12 v0 v1 v2 v3
              go_upto_region 25 with fail
              try simp only [World.size_alloc]
              try rw [← HGN.out.2.1]
              rw [← HGN.out.1]
              rw [← HW6.out]
              clear HW6
              have a0 := HN6.out.cell 0 rfl
              have a1 := HN6.out.cell 1 rfl
              have a2 := HN6.out.cell 2 rfl
              have a3 := HN6.out.cell 3 rfl
              have a4 := HN6.out.cell 4 rfl
              have a5 := HN6.out.cell 5 rfl
              have a6 := HN6.out.cell 6 rfl
              have a7 := HN6.out.cell 7 rfl
              have a8 := HN6.out.cell 8 rfl
              have a9 := HN6.out.cell 9 rfl
              have a10 := HN6.out.cell 10 rfl
              have a11 := HN6.out.cell 11 rfl
              have a12 := HN6.out.cell 12 rfl
              have v0 := HD6.out.box.cell 0 rfl
              have v1 := HD6.out.box.cell 1 rfl
              have v2 := HD6.out.box.cell 2 rfl
              have v3 := HD6.out.box.cell 3 rfl
              cases hk : kfind ks nn with
              | some kk =>
                have HQ1 := Lib.hid (at_hit nn w6 HWFN.out HF6.out hk)
                have HK := Lib.hid hk
                clear hk
                go_wp2_with fail
                refine HQ1.out.mono ?_
                rintro e w7 ⟨⟨v, rfl, hko⟩, hf7, hb7⟩
                obtain ⟨kv, vv, cw, rfl, o1, o2, o3⟩ := id hko
                obtain ⟨pa, px, rfl⟩ := o1.open
                obtain ⟨pb, py, rfl⟩ := o2.open
                obtain ⟨pc', pz, rfl⟩ := o3.open
                simp only [List.length_map] at hko ⊢
                unfold Kn.val at hko ⊢
                have HKO := Lib.hid hko
                clear hko o1 o2 o3
                have HC10 := Lib.hid (HB10.out.below hb7)
                have HC11 := Lib.hid (HB11.out.below hb7)
                have HF7 := Lib.hid hf7
                have HT7 := Lib.hid (HT6.out.then hb7)
                have HG7 := Lib.hid (HD6.out.box.below hb7)
                clear hf7 hb7 a0 a1 a2 a3 a4 a5 a6 a7 a8 a9 a10 a11 a12 v0 v1 v2 v3
                have b10 : BX w7 G10 39 #[.int .i64 0, .int .u64 0, .int .u64 0, .int .i64 0, .string ⟨#[]⟩, .string ⟨#[]⟩, .bool false, .int .i64 0, .slice none 0 0, .slice none 0 0, .slice none 0 0] := HC10.out
                have b11 : BX w7 G11 39 #[.int .i64 0, .int .u64 0, .int .u64 0, .int .i64 0, .string ⟨#[]⟩, .string ⟨#[]⟩, .bool false, .int .i64 0, .slice none 0 0, .slice none 0 0, .slice none 0 0] := HC11.out
                have l0 := b10.cell 0 rfl
                have l1 := b10.cell 1 rfl
                have l2 := b10.cell 2 rfl
                have l3 := b10.cell 3 rfl
                have l4 := b10.cell 4 rfl
                have l5 := b10.cell 5 rfl
                have l6 := b10.cell 6 rfl
                have l7 := b10.cell 7 rfl
                have l8 := b10.cell 8 rfl
                have l9 := b10.cell 9 rfl
                have l10 := b10.cell 10 rfl
                have d0 := b10.frozen 0
                have d1 := b10.frozen 1
                have d2 := b10.frozen 2
                have d3 := b10.frozen 3
                have d4 := b10.frozen 4
                have d5 := b10.frozen 5
                have d6 := b10.frozen 6
                have d7 := b10.frozen 7
                have d8 := b10.frozen 8
                have d9 := b10.frozen 9
                have d10 := b10.frozen 10
                obtain ⟨w8, hw8⟩ : ∃ W, W = (((((((((((w7.setCell ⟨G10, 0, none⟩ (.int .i64 kk.c)).setCell ⟨G10, 1, none⟩ (.int .u64 kk.wd)).setCell ⟨G10, 2, none⟩ (.int .u64 kk.vr)).setCell ⟨G10, 3, none⟩ (.int .i64 kk.n.lv)).setCell ⟨G10, 4, none⟩ (.string kk.n.lo)).setCell ⟨G10, 5, none⟩ (.string kk.n.hi)).setCell ⟨G10, 6, none⟩ (.bool kk.n.la)).setCell ⟨G10, 7, none⟩ (.int .i64 kk.n.nx)).setCell ⟨G10, 8, none⟩ (.slice pa kk.n.ks.length px)).setCell ⟨G10, 9, none⟩ (.slice pb kk.n.vs.length py)).setCell ⟨G10, 10, none⟩ (.slice pc' kk.n.cs.length pz)) := ⟨_, rfl⟩
                have ht8 : Turn (fun j => j = G10) w7 w8 := by
                  rw [hw8]
                  exact turn_set11 _ _ _ _ _ _ _ _ _ _ _ _ _
                have c10 : BX w8 G10 39 #[.int .i64 kk.c, .int .u64 kk.wd, .int .u64 kk.vr, .int .i64 kk.n.lv, .string kk.n.lo, .string kk.n.hi, .bool kk.n.la, .int .i64 kk.n.nx, .slice pa kk.n.ks.length px, .slice pb kk.n.vs.length py, .slice pc' kk.n.cs.length pz] := by
                  rw [hw8]
                  exact bx_set11 b10 _ _ _ _ _ _ _ _ _ _ _
                have c11 : BX w8 G11 39 #[.int .i64 0, .int .u64 0, .int .u64 0, .int .i64 0, .string ⟨#[]⟩, .string ⟨#[]⟩, .bool false, .int .i64 0, .slice none 0 0, .slice none 0 0, .slice none 0 0] := (ht8.block G11 (lt_of_block b11) hne3').trans b11
                have g8 : BX w8 G 31 #[.slice lo ln lc, .slice po pn pc, .int .i64 k, .int .i64 m] := (ht8.block G (lt_of_block HG7.out) hne1).trans HG7.out
                have HF8 := Lib.hid (HF7.out.box ht8 b10 (by decide) HNV10.out)
                have HT8 := Lib.hid (Turn.through (T := fun j => j = G10) HT7.out ht8 (fun j e => by rw [show j = G10 from e, HGN.out.1]; exact Nat.le_refl _))
                have HD8 := Lib.hid (HD5.out.renew HT8.out HF5.out.noKn g8)
                have HN8 := Lib.hid (show BX w8 G4 _ _ from (HT8.out.block G4 HGN.out.2.2.2.2 (fun e => by
                  rcases e with e | e
                  · exact HNV.out e
                  · exact bx_ne HN5.out HD5.out.box (by decide) e)).trans HN5.out)
                have HKO8 := Lib.hid (HKO.out.box ht8 b10 (by decide))
                have HC := Lib.hid (show _ ∧ _ ∧ _ from ⟨c10, c11, g8⟩)
                have HW8 := Lib.hid hw8
                clear ht8 c10 c11 g8 b10 b11 hw8
                go_upto_region 26 with fail
                rw [← HW8.out]
                clear HW8 l0 d0 l1 d1 l2 d2 l3 d3 l4 d4 l5 d5 l6 d6 l7 d7 l8 d8 l9 d9 l10 d10
                have a0 := HN8.out.cell 0 rfl
                have a1 := HN8.out.cell 1 rfl
                have a2 := HN8.out.cell 2 rfl
                have a3 := HN8.out.cell 3 rfl
                have a4 := HN8.out.cell 4 rfl
                have a5 := HN8.out.cell 5 rfl
                have a6 := HN8.out.cell 6 rfl
                have a7 := HN8.out.cell 7 rfl
                have a8 := HN8.out.cell 8 rfl
                have a9 := HN8.out.cell 9 rfl
                have a10 := HN8.out.cell 10 rfl
                have a11 := HN8.out.cell 11 rfl
                have a12 := HN8.out.cell 12 rfl
                have v0 := HD8.out.box.cell 0 rfl
                have v1 := HD8.out.box.cell 1 rfl
                have v2 := HD8.out.box.cell 2 rfl
                have v3 := HD8.out.box.cell 3 rfl
                have HQ2 := Lib.hid (rat_hit lo ln lc po pn pc k m nn ks kk w8 HD8.out.row.ks HK.out)
                go_wp2_with fail
                refine HQ2.out.mono ?_
                rintro e w9 ⟨⟨qa, n1, qx, qb, n2, qy, qc, n3, qz, rfl, hP9⟩, hb9⟩
                obtain ⟨rfl, rfl, rfl, hnd9⟩ := PV.ndF hP9
                have HND9 := Lib.hid hnd9
                clear hP9 hnd9
                have HF9 := Lib.hid (HF8.out.keep hb9)
                have HT9 := Lib.hid (HT8.out.then hb9)
                have c10 := HC.out.1.below hb9
                have c11 := HC.out.2.1.below hb9
                have g9 := HC.out.2.2.below hb9
                have HKO9 := Lib.hid (HKO8.out.keep hb9)
                clear hb9 a0 a1 a2 a3 a4 a5 a6 a7 a8 a9 a10 a11 a12 v0 v1 v2 v3
                have v0 := g9.cell 0 rfl
                have v1 := g9.cell 1 rfl
                have v2 := g9.cell 2 rfl
                have v3 := g9.cell 3 rfl
                have y0 := g9.frozen 0
                have y1 := g9.frozen 1
                have y2 := g9.frozen 2
                have y3 := g9.frozen 3
                have l0 := c11.cell 0 rfl
                have l1 := c11.cell 1 rfl
                have l2 := c11.cell 2 rfl
                have l3 := c11.cell 3 rfl
                have l4 := c11.cell 4 rfl
                have l5 := c11.cell 5 rfl
                have l6 := c11.cell 6 rfl
                have l7 := c11.cell 7 rfl
                have l8 := c11.cell 8 rfl
                have l9 := c11.cell 9 rfl
                have l10 := c11.cell 10 rfl
                have d0 := c11.frozen 0
                have d1 := c11.frozen 1
                have d2 := c11.frozen 2
                have d3 := c11.frozen 3
                have d4 := c11.frozen 4
                have d5 := c11.frozen 5
                have d6 := c11.frozen 6
                have d7 := c11.frozen 7
                have d8 := c11.frozen 8
                have d9 := c11.frozen 9
                have d10 := c11.frozen 10
                obtain ⟨w10, hw10⟩ : ∃ W, W = ((((w9.setCell ⟨G, 0, none⟩ (.slice lo ln lc)).setCell ⟨G, 1, none⟩ (.slice po pn pc)).setCell ⟨G, 2, none⟩ (.int .i64 k)).setCell ⟨G, 3, none⟩ (.int .i64 m)) := ⟨_, rfl⟩
                obtain ⟨w11, hw11⟩ : ∃ W, W = (((((((((((w10.setCell ⟨G11, 0, none⟩ (.int .i64 kk.c)).setCell ⟨G11, 1, none⟩ (.int .u64 kk.wd)).setCell ⟨G11, 2, none⟩ (.int .u64 kk.vr)).setCell ⟨G11, 3, none⟩ (.int .i64 kk.n.lv)).setCell ⟨G11, 4, none⟩ (.string kk.n.lo)).setCell ⟨G11, 5, none⟩ (.string kk.n.hi)).setCell ⟨G11, 6, none⟩ (.bool kk.n.la)).setCell ⟨G11, 7, none⟩ (.int .i64 kk.n.nx)).setCell ⟨G11, 8, none⟩ (.slice qa kk.n.ks.length qx)).setCell ⟨G11, 9, none⟩ (.slice qb kk.n.vs.length qy)).setCell ⟨G11, 10, none⟩ (.slice qc kk.n.cs.length qz)) := ⟨_, rfl⟩
                have ht10 : Turn (fun j => j = G) w9 w10 := by
                  rw [hw10]
                  exact Turn.setCell (S := fun j => j = G) (Turn.setCell (S := fun j => j = G) (Turn.setCell (S := fun j => j = G) (Turn.setCell (S := fun j => j = G) (Turn.refl _ w9) (Or.inl rfl) _) (Or.inl rfl) _) (Or.inl rfl) _) (Or.inl rfl) _
                have ht11 : Turn (fun j => j = G11) w10 w11 := by
                  rw [hw11]
                  exact turn_set11 _ _ _ _ _ _ _ _ _ _ _ _ _
                have k10 : BX w10 G10 _ _ := (ht10.block G10 (lt_of_block c10) hne1').trans c10
                have k11 : BX w10 G11 _ _ := (ht10.block G11 (lt_of_block c11) hne2').trans c11
                have kG : BX w10 G 31 #[.slice lo ln lc, .slice po pn pc, .int .i64 k, .int .i64 m] := by
                  rw [hw10]
                  exact ((((g9.set 0 _).set 1 _).set 2 _).set 3 _)
                have m10 : BX w11 G10 _ _ := (ht11.block G10 (lt_of_block k10) hne3).trans k10
                have m11 : BX w11 G11 39 #[.int .i64 kk.c, .int .u64 kk.wd, .int .u64 kk.vr, .int .i64 kk.n.lv, .string kk.n.lo, .string kk.n.hi, .bool kk.n.la, .int .i64 kk.n.nx, .slice qa kk.n.ks.length qx, .slice qb kk.n.vs.length qy, .slice qc kk.n.cs.length qz] := by
                  rw [hw11]
                  exact bx_set11 k11 _ _ _ _ _ _ _ _ _ _ _
                have mG : BX w11 G _ _ := (ht11.block G (lt_of_block kG) hne2).trans kG
                have HF11 := Lib.hid ((HF9.out.box ht10 g9 (by decide) HD5.out.out).box ht11 k11 (by decide) HNV11.out)
                have HT11 := Lib.hid (Turn.through (T := fun j => j = G11) (HT9.out.trans (Turn.mono (T := fun g => VS A b (.slice so sn sc) g ∨ g = G) ht10 (fun _ _ e => Or.inr e))) ht11 (fun j e => by rw [show j = G11 from e, HGN.out.2.1]; exact Nat.le_succ _))
                have HKO11 := Lib.hid ((HKO9.out.box ht10 g9 (by decide)).box ht11 k11 (by decide))
                have HM := Lib.hid (show _ ∧ _ ∧ _ from ⟨m10, m11, mG⟩)
                have HW10 := Lib.hid hw10
                have HW11 := Lib.hid hw11
                clear ht10 ht11 c10 c11 g9 k10 k11 kG m10 m11 mG hw10 hw11
                go_upto_region 27 with fail
                rw [← HW10.out, ← HW11.out]
                clear HW10 HW11 l0 d0 l1 d1 l2 d2 l3 d3 l4 d4 l5 d5 l6 d6 l7 d7 l8 d8 l9 d9 l10 d10 v0 v1 v2 v3 y0 y1 y2 y3
                have l0 := HM.out.1.cell 0 rfl
                have l1 := HM.out.1.cell 1 rfl
                have l2 := HM.out.1.cell 2 rfl
                have l3 := HM.out.1.cell 3 rfl
                have l4 := HM.out.1.cell 4 rfl
                have l5 := HM.out.1.cell 5 rfl
                have l6 := HM.out.1.cell 6 rfl
                have l7 := HM.out.1.cell 7 rfl
                have l8 := HM.out.1.cell 8 rfl
                have l9 := HM.out.1.cell 9 rfl
                have l10 := HM.out.1.cell 10 rfl
                have r0 := HM.out.2.1.cell 0 rfl
                have r1 := HM.out.2.1.cell 1 rfl
                have r2 := HM.out.2.1.cell 2 rfl
                have r3 := HM.out.2.1.cell 3 rfl
                have r4 := HM.out.2.1.cell 4 rfl
                have r5 := HM.out.2.1.cell 5 rfl
                have r6 := HM.out.2.1.cell 6 rfl
                have r7 := HM.out.2.1.cell 7 rfl
                have r8 := HM.out.2.1.cell 8 rfl
                have r9 := HM.out.2.1.cell 9 rfl
                have r10 := HM.out.2.1.cell 10 rfl
                have hnd1 := (PV.ndF (KnO.v HKO11.out)).2.2.2
                have hbw : Below w.heap.size w w11 := HX5.out.trans (HT11.out.below (fun j e => by
                  rcases e with e | e
                  · exact HF5.out.base j e
                  · rw [e]; exact HD5.out.ge) HX5.out.size)
                have HSM := Lib.hid (rnsame_of kk.n.lv kk.n.nx kk.n.lo kk.n.hi kk.n.la pa pb pc' kk.n.ks.length px kk.n.vs.length py kk.n.cs.length pz kk.n.lv kk.n.nx kk.n.lo kk.n.hi kk.n.la qa qb qc kk.n.ks.length qx kk.n.vs.length qy kk.n.cs.length qz kk.n.ks kk.n.vs kk.n.cs kk.n.ks kk.n.vs kk.n.cs true w11 hnd1 (HND9.out.keep hbw) ⟨fun _ => Nod.same kk.n, fun _ => rfl⟩)
                clear hnd1 hbw
                go_wp2_with fail
                refine HSM.out.mono ?_
                rintro e w12 ⟨rfl, hb12⟩
                have HF12 := Lib.hid (HF11.out.keep hb12)
                have HT12 := Lib.hid (HT11.out.then hb12)
                have HG12 := Lib.hid (HM.out.2.2.below hb12)
                clear hb12 l0 l1 l2 l3 l4 l5 l6 l7 l8 l9 l10 r0 r1 r2 r3 r4 r5 r6 r7 r8 r9 r10
                go_wp2_with fail
                go_meet
                have HD12 := HD5.out.renew HT12.out HF5.out.noKn HG12.out
                have hx12 : Below w.heap.size w w12 := HX5.out.trans (HT12.out.below (fun j e => by
                  rcases e with e | e
                  · exact HF5.out.base j e
                  · rw [e]; exact HD5.out.ge) HX5.out.size)
                have hz := st_same (i := i + 1) HF12.out HD12 HOK.out ⟨by have := HSZ.out; omega, by have := HSZ.out; omega, by have := HSZ.out; omega⟩ hx12
                exact ⟨true, rfl, rfl, Lib.hid hz⟩
              | none =>
                have HQ1 := Lib.hid (at_miss nn w6 HWFN.out HF6.out hk)
                have HK := Lib.hid hk
                obtain ⟨k2, hk2⟩ : ∃ z, z = lackK k (cellB nn) 1 := ⟨_, rfl⟩
                obtain ⟨m2, hm2⟩ : ∃ z, z = lackM k m (cellB nn) nn := ⟨_, rfl⟩
                rw [← hk2, ← hm2] at HQ1
                have HKM := Lib.hid (show _ ∧ _ from ⟨hk2, hm2⟩)
                clear hk hk2 hm2
                go_wp2_with fail
                refine HQ1.out.mono ?_
                rintro e w7 ⟨rfl, hf7, ht7⟩
                have HC10 := Lib.hid (show BX w7 G10 _ _ from (ht7.block G10 (lt_of_block HB10.out) HNV10.out).trans HB10.out)
                have HC11 := Lib.hid (show BX w7 G11 _ _ from (ht7.block G11 (lt_of_block HB11.out) HNV11.out).trans HB11.out)
                have HF7 := Lib.hid hf7
                have HT7 := Lib.hid (HT6.out.trans (Turn.mono (T := fun g => VS A b (.slice so sn sc) g ∨ g = G) ht7 (fun _ _ e => Or.inl e)))
                have HG7 := Lib.hid (show BX w7 G _ _ from (ht7.block G (lt_of_block HD6.out.box) HD5.out.out).trans HD6.out.box)
                clear hf7 ht7 a0 a1 a2 a3 a4 a5 a6 a7 a8 a9 a10 a11 a12 v0 v1 v2 v3
                have b10 : BX w7 G10 39 #[.int .i64 0, .int .u64 0, .int .u64 0, .int .i64 0, .string ⟨#[]⟩, .string ⟨#[]⟩, .bool false, .int .i64 0, .slice none 0 0, .slice none 0 0, .slice none 0 0] := HC10.out
                have b11 : BX w7 G11 39 #[.int .i64 0, .int .u64 0, .int .u64 0, .int .i64 0, .string ⟨#[]⟩, .string ⟨#[]⟩, .bool false, .int .i64 0, .slice none 0 0, .slice none 0 0, .slice none 0 0] := HC11.out
                have l0 := b10.cell 0 rfl
                have l1 := b10.cell 1 rfl
                have l2 := b10.cell 2 rfl
                have l3 := b10.cell 3 rfl
                have l4 := b10.cell 4 rfl
                have l5 := b10.cell 5 rfl
                have l6 := b10.cell 6 rfl
                have l7 := b10.cell 7 rfl
                have l8 := b10.cell 8 rfl
                have l9 := b10.cell 9 rfl
                have l10 := b10.cell 10 rfl
                have d0 := b10.frozen 0
                have d1 := b10.frozen 1
                have d2 := b10.frozen 2
                have d3 := b10.frozen 3
                have d4 := b10.frozen 4
                have d5 := b10.frozen 5
                have d6 := b10.frozen 6
                have d7 := b10.frozen 7
                have d8 := b10.frozen 8
                have d9 := b10.frozen 9
                have d10 := b10.frozen 10
                obtain ⟨w8, hw8⟩ : ∃ W, W = (((((((((((w7.setCell ⟨G10, 0, none⟩ (.int .i64 0)).setCell ⟨G10, 1, none⟩ (.int .u64 0)).setCell ⟨G10, 2, none⟩ (.int .u64 0)).setCell ⟨G10, 3, none⟩ (.int .i64 0)).setCell ⟨G10, 4, none⟩ (.string ⟨#[]⟩)).setCell ⟨G10, 5, none⟩ (.string ⟨#[]⟩)).setCell ⟨G10, 6, none⟩ (.bool false)).setCell ⟨G10, 7, none⟩ (.int .i64 0)).setCell ⟨G10, 8, none⟩ (.slice none 0 0)).setCell ⟨G10, 9, none⟩ (.slice none 0 0)).setCell ⟨G10, 10, none⟩ (.slice none 0 0)) := ⟨_, rfl⟩
                have ht8 : Turn (fun j => j = G10) w7 w8 := by
                  rw [hw8]
                  exact turn_set11 _ _ _ _ _ _ _ _ _ _ _ _ _
                have c10 : BX w8 G10 39 #[.int .i64 0, .int .u64 0, .int .u64 0, .int .i64 0, .string ⟨#[]⟩, .string ⟨#[]⟩, .bool false, .int .i64 0, .slice none 0 0, .slice none 0 0, .slice none 0 0] := by
                  rw [hw8]
                  exact bx_set11 b10 _ _ _ _ _ _ _ _ _ _ _
                have c11 : BX w8 G11 39 #[.int .i64 0, .int .u64 0, .int .u64 0, .int .i64 0, .string ⟨#[]⟩, .string ⟨#[]⟩, .bool false, .int .i64 0, .slice none 0 0, .slice none 0 0, .slice none 0 0] := (ht8.block G11 (lt_of_block b11) hne3').trans b11
                have g8 : BX w8 G 31 #[.slice lo ln lc, .slice po pn pc, .int .i64 k, .int .i64 m] := (ht8.block G (lt_of_block HG7.out) hne1).trans HG7.out
                have HF8 := Lib.hid (HF7.out.box ht8 b10 (by decide) HNV10.out)
                have HT8 := Lib.hid (Turn.through (T := fun j => j = G10) HT7.out ht8 (fun j e => by rw [show j = G10 from e, HGN.out.1]; exact Nat.le_refl _))
                have HD8 := Lib.hid (HD5.out.renew HT8.out HF5.out.noKn g8)
                have HN8 := Lib.hid (show BX w8 G4 _ _ from (HT8.out.block G4 HGN.out.2.2.2.2 (fun e => by
                  rcases e with e | e
                  · exact HNV.out e
                  · exact bx_ne HN5.out HD5.out.box (by decide) e)).trans HN5.out)
                have HC := Lib.hid (show _ ∧ _ ∧ _ from ⟨c10, c11, g8⟩)
                have HW8 := Lib.hid hw8
                clear ht8 c10 c11 g8 b10 b11 hw8
                go_upto_region 26 with fail
                rw [← HW8.out]
                clear HW8 l0 d0 l1 d1 l2 d2 l3 d3 l4 d4 l5 d5 l6 d6 l7 d7 l8 d8 l9 d9 l10 d10
                have a0 := HN8.out.cell 0 rfl
                have a1 := HN8.out.cell 1 rfl
                have a2 := HN8.out.cell 2 rfl
                have a3 := HN8.out.cell 3 rfl
                have a4 := HN8.out.cell 4 rfl
                have a5 := HN8.out.cell 5 rfl
                have a6 := HN8.out.cell 6 rfl
                have a7 := HN8.out.cell 7 rfl
                have a8 := HN8.out.cell 8 rfl
                have a9 := HN8.out.cell 9 rfl
                have a10 := HN8.out.cell 10 rfl
                have a11 := HN8.out.cell 11 rfl
                have a12 := HN8.out.cell 12 rfl
                have v0 := HD8.out.box.cell 0 rfl
                have v1 := HD8.out.box.cell 1 rfl
                have v2 := HD8.out.box.cell 2 rfl
                have v3 := HD8.out.box.cell 3 rfl
                have HQ2 := Lib.hid (rat_miss lo ln lc po pn pc k m nn ks w8 HD8.out.row.ks HK.out)
                rw [← HKM.out.1, ← HKM.out.2] at HQ2
                go_wp2_with fail
                refine HQ2.out.mono ?_
                rintro e w9 ⟨rfl, hb9⟩
                have HF9 := Lib.hid (HF8.out.keep hb9)
                have HT9 := Lib.hid (HT8.out.then hb9)
                have c10 := HC.out.1.below hb9
                have c11 := HC.out.2.1.below hb9
                have g9 := HC.out.2.2.below hb9
                clear hb9 a0 a1 a2 a3 a4 a5 a6 a7 a8 a9 a10 a11 a12 v0 v1 v2 v3
                have v0 := g9.cell 0 rfl
                have v1 := g9.cell 1 rfl
                have v2 := g9.cell 2 rfl
                have v3 := g9.cell 3 rfl
                have y0 := g9.frozen 0
                have y1 := g9.frozen 1
                have y2 := g9.frozen 2
                have y3 := g9.frozen 3
                have l0 := c11.cell 0 rfl
                have l1 := c11.cell 1 rfl
                have l2 := c11.cell 2 rfl
                have l3 := c11.cell 3 rfl
                have l4 := c11.cell 4 rfl
                have l5 := c11.cell 5 rfl
                have l6 := c11.cell 6 rfl
                have l7 := c11.cell 7 rfl
                have l8 := c11.cell 8 rfl
                have l9 := c11.cell 9 rfl
                have l10 := c11.cell 10 rfl
                have d0 := c11.frozen 0
                have d1 := c11.frozen 1
                have d2 := c11.frozen 2
                have d3 := c11.frozen 3
                have d4 := c11.frozen 4
                have d5 := c11.frozen 5
                have d6 := c11.frozen 6
                have d7 := c11.frozen 7
                have d8 := c11.frozen 8
                have d9 := c11.frozen 9
                have d10 := c11.frozen 10
                obtain ⟨w10, hw10⟩ : ∃ W, W = ((((w9.setCell ⟨G, 0, none⟩ (.slice lo ln lc)).setCell ⟨G, 1, none⟩ (.slice po pn pc)).setCell ⟨G, 2, none⟩ (.int .i64 k2)).setCell ⟨G, 3, none⟩ (.int .i64 m2)) := ⟨_, rfl⟩
                obtain ⟨w11, hw11⟩ : ∃ W, W = (((((((((((w10.setCell ⟨G11, 0, none⟩ (.int .i64 0)).setCell ⟨G11, 1, none⟩ (.int .u64 0)).setCell ⟨G11, 2, none⟩ (.int .u64 0)).setCell ⟨G11, 3, none⟩ (.int .i64 0)).setCell ⟨G11, 4, none⟩ (.string ⟨#[]⟩)).setCell ⟨G11, 5, none⟩ (.string ⟨#[]⟩)).setCell ⟨G11, 6, none⟩ (.bool false)).setCell ⟨G11, 7, none⟩ (.int .i64 0)).setCell ⟨G11, 8, none⟩ (.slice none 0 0)).setCell ⟨G11, 9, none⟩ (.slice none 0 0)).setCell ⟨G11, 10, none⟩ (.slice none 0 0)) := ⟨_, rfl⟩
                have ht10 : Turn (fun j => j = G) w9 w10 := by
                  rw [hw10]
                  exact Turn.setCell (S := fun j => j = G) (Turn.setCell (S := fun j => j = G) (Turn.setCell (S := fun j => j = G) (Turn.setCell (S := fun j => j = G) (Turn.refl _ w9) (Or.inl rfl) _) (Or.inl rfl) _) (Or.inl rfl) _) (Or.inl rfl) _
                have ht11 : Turn (fun j => j = G11) w10 w11 := by
                  rw [hw11]
                  exact turn_set11 _ _ _ _ _ _ _ _ _ _ _ _ _
                have k10 : BX w10 G10 _ _ := (ht10.block G10 (lt_of_block c10) hne1').trans c10
                have k11 : BX w10 G11 _ _ := (ht10.block G11 (lt_of_block c11) hne2').trans c11
                have kG : BX w10 G 31 #[.slice lo ln lc, .slice po pn pc, .int .i64 k2, .int .i64 m2] := by
                  rw [hw10]
                  exact ((((g9.set 0 _).set 1 _).set 2 _).set 3 _)
                have m10 : BX w11 G10 _ _ := (ht11.block G10 (lt_of_block k10) hne3).trans k10
                have m11 : BX w11 G11 39 #[.int .i64 0, .int .u64 0, .int .u64 0, .int .i64 0, .string ⟨#[]⟩, .string ⟨#[]⟩, .bool false, .int .i64 0, .slice none 0 0, .slice none 0 0, .slice none 0 0] := by
                  rw [hw11]
                  exact bx_set11 k11 _ _ _ _ _ _ _ _ _ _ _
                have mG : BX w11 G _ _ := (ht11.block G (lt_of_block kG) hne2).trans kG
                have HF11 := Lib.hid ((HF9.out.box ht10 g9 (by decide) HD5.out.out).box ht11 k11 (by decide) HNV11.out)
                have HT11 := Lib.hid (Turn.through (T := fun j => j = G11) (HT9.out.trans (Turn.mono (T := fun g => VS A b (.slice so sn sc) g ∨ g = G) ht10 (fun _ _ e => Or.inr e))) ht11 (fun j e => by rw [show j = G11 from e, HGN.out.2.1]; exact Nat.le_succ _))
                have HM := Lib.hid (show _ ∧ _ ∧ _ from ⟨m10, m11, mG⟩)
                have HW10 := Lib.hid hw10
                have HW11 := Lib.hid hw11
                clear ht10 ht11 c10 c11 g9 k10 k11 kG m10 m11 mG hw10 hw11
                go_upto_region 27 with fail
                rw [← HW10.out, ← HW11.out]
                clear HW10 HW11 l0 d0 l1 d1 l2 d2 l3 d3 l4 d4 l5 d5 l6 d6 l7 d7 l8 d8 l9 d9 l10 d10 v0 v1 v2 v3 y0 y1 y2 y3
                have l0 := HM.out.1.cell 0 rfl
                have l1 := HM.out.1.cell 1 rfl
                have l2 := HM.out.1.cell 2 rfl
                have l3 := HM.out.1.cell 3 rfl
                have l4 := HM.out.1.cell 4 rfl
                have l5 := HM.out.1.cell 5 rfl
                have l6 := HM.out.1.cell 6 rfl
                have l7 := HM.out.1.cell 7 rfl
                have l8 := HM.out.1.cell 8 rfl
                have l9 := HM.out.1.cell 9 rfl
                have l10 := HM.out.1.cell 10 rfl
                have r0 := HM.out.2.1.cell 0 rfl
                have r1 := HM.out.2.1.cell 1 rfl
                have r2 := HM.out.2.1.cell 2 rfl
                have r3 := HM.out.2.1.cell 3 rfl
                have r4 := HM.out.2.1.cell 4 rfl
                have r5 := HM.out.2.1.cell 5 rfl
                have r6 := HM.out.2.1.cell 6 rfl
                have r7 := HM.out.2.1.cell 7 rfl
                have r8 := HM.out.2.1.cell 8 rfl
                have r9 := HM.out.2.1.cell 9 rfl
                have r10 := HM.out.2.1.cell 10 rfl
                have HSM := Lib.hid (rnsame_of 0 0 ⟨#[]⟩ ⟨#[]⟩ false none none none 0 0 0 0 0 0 0 0 ⟨#[]⟩ ⟨#[]⟩ false none none none 0 0 0 0 0 0 [] [] [] [] [] [] true w11 ⟨Rd.nil _, Rd.nil _, Rd.nil _⟩ ⟨Rd.nil _, Rd.nil _, Rd.nil _⟩ ⟨fun _ => Nod.same Nod.none, fun _ => rfl⟩)
                go_wp2_with fail
                refine HSM.out.mono ?_
                rintro e w12 ⟨rfl, hb12⟩
                have HF12 := Lib.hid (HF11.out.keep hb12)
                have HT12 := Lib.hid (HT11.out.then hb12)
                have HG12 := Lib.hid (HM.out.2.2.below hb12)
                clear hb12 l0 l1 l2 l3 l4 l5 l6 l7 l8 l9 l10 r0 r1 r2 r3 r4 r5 r6 r7 r8 r9 r10
                go_wp2_with fail
                go_meet
                have HD12 := HD5.out.renew HT12.out HF5.out.noKn HG12.out
                have hx12 : Below w.heap.size w w12 := HX5.out.trans (HT12.out.below (fun j e => by
                  rcases e with e | e
                  · exact HF5.out.base j e
                  · rw [e]; exact HD5.out.ge) HX5.out.size)
                have hz := st_same (i := i + 1) HF12.out HD12 HOK.out ⟨by have := HSZ.out; omega, by have := HSZ.out; omega, by have := HSZ.out; omega⟩ hx12
                exact ⟨false, rfl, rfl, Lib.hid hz⟩
            have z3 : (kd == 3) = false := beq_eq_false_iff_ne.2 e3
            clear e3
            by_cases e4 : kd = 4
            · subst e4
              obtain ⟨w6, hw6, b10, b11, hx6⟩ := bx2 w5 47 47 #[.int .i64 0, .int .u64 0] #[.int .i64 0, .int .u64 0]
              obtain ⟨G10, hG10⟩ : ∃ g, g = w5.heap.size := ⟨_, rfl⟩
              obtain ⟨G11, hG11⟩ : ∃ g, g = w5.heap.size + 1 := ⟨_, rfl⟩
              rw [← hG10] at b10
              rw [← hG11] at b11
              have hsz6 : w6.heap.size = w5.heap.size + 1 + 1 := by rw [hw6, World.size_alloc, World.size_alloc]
              have hGG : G < w5.heap.size := lt_of_block HD5.out.box
              have HGN := Lib.hid (show G10 = w5.heap.size ∧ G11 = w5.heap.size + 1 ∧ w6.heap.size = w5.heap.size + 1 + 1 ∧ G < w5.heap.size ∧ G4 < w5.heap.size from ⟨hG10, hG11, hsz6, hGG, lt_of_block HN5.out⟩)
              have hne1 : G ≠ G10 := by omega
              have hne1' : G10 ≠ G := by omega
              have hne2 : G ≠ G11 := by omega
              have hne2' : G11 ≠ G := by omega
              have hne3 : G10 ≠ G11 := by omega
              have hne3' : G11 ≠ G10 := by omega
              have HNV10 := Lib.hid (show ¬ VS A b (.slice so sn sc) G10 from not_vs HF5.out (by rw [hG10]; exact Nat.le_refl _))
              have HNV11 := Lib.hid (show ¬ VS A b (.slice so sn sc) G11 from not_vs HF5.out (by omega))
              have HB10 := Lib.hid b10
              have HB11 := Lib.hid b11
              have HW6 := Lib.hid hw6
              have HF6 := Lib.hid (HF5.out.keep hx6)
              have HD6 := Lib.hid (HD5.out.keep hx6)
              have HN6 := Lib.hid (HN5.out.below hx6)
              have HX6 := Lib.hid (HX5.out.trans (hx6.mono HX5.out.size))
              have HT6 := Lib.hid (Turn.of (S := fun g => VS A b (.slice so sn sc) g ∨ g = G) hx6)
              clear b10 b11 hw6 hx6 hsz6 hGG hG10 hG11 a0 a1 a2 a3 a4 a5 a6 a7 a8 a9 a10 a11 a12 v0 v1 v2 v3
              go_upto_region 31 with fail
              try simp only [World.size_alloc]
              try rw [← HGN.out.2.1]
              rw [← HGN.out.1]
              rw [← HW6.out]
              clear HW6
              have a0 := HN6.out.cell 0 rfl
              have a1 := HN6.out.cell 1 rfl
              have a2 := HN6.out.cell 2 rfl
              have a3 := HN6.out.cell 3 rfl
              have a4 := HN6.out.cell 4 rfl
              have a5 := HN6.out.cell 5 rfl
              have a6 := HN6.out.cell 6 rfl
              have a7 := HN6.out.cell 7 rfl
              have a8 := HN6.out.cell 8 rfl
              have a9 := HN6.out.cell 9 rfl
              have a10 := HN6.out.cell 10 rfl
              have a11 := HN6.out.cell 11 rfl
              have a12 := HN6.out.cell 12 rfl
              have v0 := HD6.out.box.cell 0 rfl
              have v1 := HD6.out.box.cell 1 rfl
              have v2 := HD6.out.box.cell 2 rfl
              have v3 := HD6.out.box.cell 3 rfl
              by_cases hit : 0 ≤ nn ∧ nn < (ss.length : Int)
              · obtain ⟨j, rfl⟩ : ∃ j : Nat, nn = j := ⟨nn.toNat, by omega⟩
                have HQ1 := Lib.hid (take_hit j w6 HF6.out (by omega))
                have HJ := Lib.hid hit
                obtain ⟨p, hp⟩ : ∃ p, p = nts ss j := ⟨_, rfl⟩
                rw [← hp] at HQ1
                have HP := Lib.hid hp
                obtain ⟨sa, sb⟩ := p
                clear hp hit
                go_wp2_with fail
                refine HQ1.out.mono ?_
                rintro e w7 ⟨rfl, hf7, hb7⟩
                have HC10 := Lib.hid (HB10.out.below hb7)
                have HC11 := Lib.hid (HB11.out.below hb7)
                have HF7 := Lib.hid hf7
                have HT7 := Lib.hid (HT6.out.then hb7)
                have HG7 := Lib.hid (HD6.out.box.below hb7)
                clear hf7 hb7 a0 a1 a2 a3 a4 a5 a6 a7 a8 a9 a10 a11 a12 v0 v1 v2 v3
                have b10 : BX w7 G10 47 #[.int .i64 0, .int .u64 0] := HC10.out
                have b11 : BX w7 G11 47 #[.int .i64 0, .int .u64 0] := HC11.out
                have l0 := b10.cell 0 rfl
                have l1 := b10.cell 1 rfl
                have d0 := b10.frozen 0
                have d1 := b10.frozen 1
                obtain ⟨w8, hw8⟩ : ∃ W, W = ((w7.setCell ⟨G10, 0, none⟩ (.int .i64 sa)).setCell ⟨G10, 1, none⟩ (.int .u64 sb)) := ⟨_, rfl⟩
                have ht8 : Turn (fun j => j = G10) w7 w8 := by
                  rw [hw8]
                  exact Turn.setCell (S := fun j => j = G10) (Turn.setCell (S := fun j => j = G10) (Turn.refl _ w7) (Or.inl rfl) _) (Or.inl rfl) _
                have c10 : BX w8 G10 47 #[.int .i64 sa, .int .u64 sb] := by
                  rw [hw8]
                  exact ((b10.set 0 _).set 1 _)
                have c11 : BX w8 G11 47 #[.int .i64 0, .int .u64 0] := (ht8.block G11 (lt_of_block b11) hne3').trans b11
                have g8 : BX w8 G 31 #[.slice lo ln lc, .slice po pn pc, .int .i64 k, .int .i64 m] := (ht8.block G (lt_of_block HG7.out) hne1).trans HG7.out
                have HF8 := Lib.hid (HF7.out.box ht8 b10 (by decide) HNV10.out)
                have HT8 := Lib.hid (Turn.through (T := fun j => j = G10) HT7.out ht8 (fun j e => by rw [show j = G10 from e, HGN.out.1]; exact Nat.le_refl _))
                have HD8 := Lib.hid (HD5.out.renew HT8.out HF5.out.noKn g8)
                have HN8 := Lib.hid (show BX w8 G4 _ _ from (HT8.out.block G4 HGN.out.2.2.2.2 (fun e => by
                  rcases e with e | e
                  · exact HNV.out e
                  · exact bx_ne HN5.out HD5.out.box (by decide) e)).trans HN5.out)
                have HC := Lib.hid (show _ ∧ _ ∧ _ from ⟨c10, c11, g8⟩)
                have HW8 := Lib.hid hw8
                clear ht8 c10 c11 g8 b10 b11 hw8
                go_upto_region 32 with fail
                rw [← HW8.out]
                clear HW8 l0 d0 l1 d1
                have a0 := HN8.out.cell 0 rfl
                have a1 := HN8.out.cell 1 rfl
                have a2 := HN8.out.cell 2 rfl
                have a3 := HN8.out.cell 3 rfl
                have a4 := HN8.out.cell 4 rfl
                have a5 := HN8.out.cell 5 rfl
                have a6 := HN8.out.cell 6 rfl
                have a7 := HN8.out.cell 7 rfl
                have a8 := HN8.out.cell 8 rfl
                have a9 := HN8.out.cell 9 rfl
                have a10 := HN8.out.cell 10 rfl
                have a11 := HN8.out.cell 11 rfl
                have a12 := HN8.out.cell 12 rfl
                have v0 := HD8.out.box.cell 0 rfl
                have v1 := HD8.out.box.cell 1 rfl
                have v2 := HD8.out.box.cell 2 rfl
                have v3 := HD8.out.box.cell 3 rfl
                have HQ2 := Lib.hid (rtake_hit lo ln lc po pn pc k m (j : Int) ss w8 HD8.out.spk (by omega) (by have := HJ.out; have := HD8.out.len; omega) (by have := HD8.out.len; have := HSZ.out; omega))
                rw [show ((j : Int)).toNat = j from by omega, ← HP.out] at HQ2
                go_wp2_with fail
                refine HQ2.out.mono ?_
                rintro e w9 ⟨rfl, hb9⟩
                have HF9 := Lib.hid (HF8.out.keep hb9)
                have HT9 := Lib.hid (HT8.out.then hb9)
                have c10 := HC.out.1.below hb9
                have c11 := HC.out.2.1.below hb9
                have g9 := HC.out.2.2.below hb9
                clear hb9 a0 a1 a2 a3 a4 a5 a6 a7 a8 a9 a10 a11 a12 v0 v1 v2 v3
                have v0 := g9.cell 0 rfl
                have v1 := g9.cell 1 rfl
                have v2 := g9.cell 2 rfl
                have v3 := g9.cell 3 rfl
                have y0 := g9.frozen 0
                have y1 := g9.frozen 1
                have y2 := g9.frozen 2
                have y3 := g9.frozen 3
                have l0 := c11.cell 0 rfl
                have l1 := c11.cell 1 rfl
                have d0 := c11.frozen 0
                have d1 := c11.frozen 1
                obtain ⟨w10, hw10⟩ : ∃ W, W = ((((w9.setCell ⟨G, 0, none⟩ (.slice lo ln lc)).setCell ⟨G, 1, none⟩ (.slice po pn pc)).setCell ⟨G, 2, none⟩ (.int .i64 k)).setCell ⟨G, 3, none⟩ (.int .i64 m)) := ⟨_, rfl⟩
                obtain ⟨w11, hw11⟩ : ∃ W, W = ((w10.setCell ⟨G11, 0, none⟩ (.int .i64 sa)).setCell ⟨G11, 1, none⟩ (.int .u64 sb)) := ⟨_, rfl⟩
                have ht10 : Turn (fun j => j = G) w9 w10 := by
                  rw [hw10]
                  exact Turn.setCell (S := fun j => j = G) (Turn.setCell (S := fun j => j = G) (Turn.setCell (S := fun j => j = G) (Turn.setCell (S := fun j => j = G) (Turn.refl _ w9) (Or.inl rfl) _) (Or.inl rfl) _) (Or.inl rfl) _) (Or.inl rfl) _
                have ht11 : Turn (fun j => j = G11) w10 w11 := by
                  rw [hw11]
                  exact Turn.setCell (S := fun j => j = G11) (Turn.setCell (S := fun j => j = G11) (Turn.refl _ w10) (Or.inl rfl) _) (Or.inl rfl) _
                have k10 : BX w10 G10 _ _ := (ht10.block G10 (lt_of_block c10) hne1').trans c10
                have k11 : BX w10 G11 _ _ := (ht10.block G11 (lt_of_block c11) hne2').trans c11
                have kG : BX w10 G 31 #[.slice lo ln lc, .slice po pn pc, .int .i64 k, .int .i64 m] := by
                  rw [hw10]
                  exact ((((g9.set 0 _).set 1 _).set 2 _).set 3 _)
                have m10 : BX w11 G10 _ _ := (ht11.block G10 (lt_of_block k10) hne3).trans k10
                have m11 : BX w11 G11 47 #[.int .i64 sa, .int .u64 sb] := by
                  rw [hw11]
                  exact ((k11.set 0 _).set 1 _)
                have mG : BX w11 G _ _ := (ht11.block G (lt_of_block kG) hne2).trans kG
                have HF11 := Lib.hid ((HF9.out.box ht10 g9 (by decide) HD5.out.out).box ht11 k11 (by decide) HNV11.out)
                have HT11 := Lib.hid (Turn.through (T := fun j => j = G11) (HT9.out.trans (Turn.mono (T := fun g => VS A b (.slice so sn sc) g ∨ g = G) ht10 (fun _ _ e => Or.inr e))) ht11 (fun j e => by rw [show j = G11 from e, HGN.out.2.1]; exact Nat.le_succ _))
                have HM := Lib.hid (show _ ∧ _ ∧ _ from ⟨m10, m11, mG⟩)
                have HW10 := Lib.hid hw10
                have HW11 := Lib.hid hw11
                clear ht10 ht11 c10 c11 g9 k10 k11 kG m10 m11 mG hw10 hw11
                go_upto_region 33 with fail
                rw [← HW10.out, ← HW11.out]
                clear HW10 HW11 l0 d0 l1 d1 v0 v1 v2 v3 y0 y1 y2 y3
                have l0 := HM.out.1.cell 0 rfl
                have l1 := HM.out.1.cell 1 rfl
                have r0 := HM.out.2.1.cell 0 rfl
                have r1 := HM.out.2.1.cell 1 rfl
                have HF12 := HF11
                have HT12 := HT11
                have HG12 := Lib.hid HM.out.2.2
                obtain ⟨w12, rfl⟩ : ∃ W : World, W = w11 := ⟨_, rfl⟩
                go_wp2_with fail
                go_meet
                have HD12 := HD5.out.renew HT12.out HF5.out.noKn HG12.out
                have hx12 : Below w.heap.size w w12 := HX5.out.trans (HT12.out.below (fun j e => by
                  rcases e with e | e
                  · exact HF5.out.base j e
                  · rw [e]; exact HD5.out.ge) HX5.out.size)
                have hz := st_same (i := i + 1) HF12.out HD12 HOK.out ⟨by have := HSZ.out; omega, by have := HSZ.out; omega, by have := HSZ.out; omega⟩ hx12
                exact ⟨true, rfl, rfl, Lib.hid hz⟩
              · have HQ1 := Lib.hid (take_miss nn w6 HF6.out (by omega) (by have := wf_le HWFN.out; omega))
                have HMS := Lib.hid (show nn < 0 ∨ (ss.length : Int) ≤ nn from by omega)
                obtain ⟨k2, hk2⟩ : ∃ z, z = lackK k (cellB nn) 2 := ⟨_, rfl⟩
                obtain ⟨m2, hm2⟩ : ∃ z, z = lackM k m (cellB nn) (nn + 1) := ⟨_, rfl⟩
                rw [← hk2, ← hm2] at HQ1
                have HKM := Lib.hid (show _ ∧ _ from ⟨hk2, hm2⟩)
                clear hit hk2 hm2
                go_wp2_with fail
                refine HQ1.out.mono ?_
                rintro e w7 ⟨rfl, hf7, ht7⟩
                have HC10 := Lib.hid (show BX w7 G10 _ _ from (ht7.block G10 (lt_of_block HB10.out) HNV10.out).trans HB10.out)
                have HC11 := Lib.hid (show BX w7 G11 _ _ from (ht7.block G11 (lt_of_block HB11.out) HNV11.out).trans HB11.out)
                have HF7 := Lib.hid hf7
                have HT7 := Lib.hid (HT6.out.trans (Turn.mono (T := fun g => VS A b (.slice so sn sc) g ∨ g = G) ht7 (fun _ _ e => Or.inl e)))
                have HG7 := Lib.hid (show BX w7 G _ _ from (ht7.block G (lt_of_block HD6.out.box) HD5.out.out).trans HD6.out.box)
                clear hf7 ht7 a0 a1 a2 a3 a4 a5 a6 a7 a8 a9 a10 a11 a12 v0 v1 v2 v3
                have b10 : BX w7 G10 47 #[.int .i64 0, .int .u64 0] := HC10.out
                have b11 : BX w7 G11 47 #[.int .i64 0, .int .u64 0] := HC11.out
                have l0 := b10.cell 0 rfl
                have l1 := b10.cell 1 rfl
                have d0 := b10.frozen 0
                have d1 := b10.frozen 1
                obtain ⟨w8, hw8⟩ : ∃ W, W = ((w7.setCell ⟨G10, 0, none⟩ (.int .i64 0)).setCell ⟨G10, 1, none⟩ (.int .u64 0)) := ⟨_, rfl⟩
                have ht8 : Turn (fun j => j = G10) w7 w8 := by
                  rw [hw8]
                  exact Turn.setCell (S := fun j => j = G10) (Turn.setCell (S := fun j => j = G10) (Turn.refl _ w7) (Or.inl rfl) _) (Or.inl rfl) _
                have c10 : BX w8 G10 47 #[.int .i64 0, .int .u64 0] := by
                  rw [hw8]
                  exact ((b10.set 0 _).set 1 _)
                have c11 : BX w8 G11 47 #[.int .i64 0, .int .u64 0] := (ht8.block G11 (lt_of_block b11) hne3').trans b11
                have g8 : BX w8 G 31 #[.slice lo ln lc, .slice po pn pc, .int .i64 k, .int .i64 m] := (ht8.block G (lt_of_block HG7.out) hne1).trans HG7.out
                have HF8 := Lib.hid (HF7.out.box ht8 b10 (by decide) HNV10.out)
                have HT8 := Lib.hid (Turn.through (T := fun j => j = G10) HT7.out ht8 (fun j e => by rw [show j = G10 from e, HGN.out.1]; exact Nat.le_refl _))
                have HD8 := Lib.hid (HD5.out.renew HT8.out HF5.out.noKn g8)
                have HN8 := Lib.hid (show BX w8 G4 _ _ from (HT8.out.block G4 HGN.out.2.2.2.2 (fun e => by
                  rcases e with e | e
                  · exact HNV.out e
                  · exact bx_ne HN5.out HD5.out.box (by decide) e)).trans HN5.out)
                have HC := Lib.hid (show _ ∧ _ ∧ _ from ⟨c10, c11, g8⟩)
                have HW8 := Lib.hid hw8
                clear ht8 c10 c11 g8 b10 b11 hw8
                go_upto_region 32 with fail
                rw [← HW8.out]
                clear HW8 l0 d0 l1 d1
                have a0 := HN8.out.cell 0 rfl
                have a1 := HN8.out.cell 1 rfl
                have a2 := HN8.out.cell 2 rfl
                have a3 := HN8.out.cell 3 rfl
                have a4 := HN8.out.cell 4 rfl
                have a5 := HN8.out.cell 5 rfl
                have a6 := HN8.out.cell 6 rfl
                have a7 := HN8.out.cell 7 rfl
                have a8 := HN8.out.cell 8 rfl
                have a9 := HN8.out.cell 9 rfl
                have a10 := HN8.out.cell 10 rfl
                have a11 := HN8.out.cell 11 rfl
                have a12 := HN8.out.cell 12 rfl
                have v0 := HD8.out.box.cell 0 rfl
                have v1 := HD8.out.box.cell 1 rfl
                have v2 := HD8.out.box.cell 2 rfl
                have v3 := HD8.out.box.cell 3 rfl
                have HQ2 := Lib.hid (rtake_miss lo ln lc po pn pc k m nn ss w8 HD8.out.spk (by have := HMS.out; have := HD8.out.len; omega))
                rw [← HKM.out.1, ← HKM.out.2] at HQ2
                go_wp2_with fail
                refine HQ2.out.mono ?_
                rintro e w9 ⟨rfl, hb9⟩
                have HF9 := Lib.hid (HF8.out.keep hb9)
                have HT9 := Lib.hid (HT8.out.then hb9)
                have c10 := HC.out.1.below hb9
                have c11 := HC.out.2.1.below hb9
                have g9 := HC.out.2.2.below hb9
                clear hb9 a0 a1 a2 a3 a4 a5 a6 a7 a8 a9 a10 a11 a12 v0 v1 v2 v3
                have v0 := g9.cell 0 rfl
                have v1 := g9.cell 1 rfl
                have v2 := g9.cell 2 rfl
                have v3 := g9.cell 3 rfl
                have y0 := g9.frozen 0
                have y1 := g9.frozen 1
                have y2 := g9.frozen 2
                have y3 := g9.frozen 3
                have l0 := c11.cell 0 rfl
                have l1 := c11.cell 1 rfl
                have d0 := c11.frozen 0
                have d1 := c11.frozen 1
                obtain ⟨w10, hw10⟩ : ∃ W, W = ((((w9.setCell ⟨G, 0, none⟩ (.slice lo ln lc)).setCell ⟨G, 1, none⟩ (.slice po pn pc)).setCell ⟨G, 2, none⟩ (.int .i64 k2)).setCell ⟨G, 3, none⟩ (.int .i64 m2)) := ⟨_, rfl⟩
                obtain ⟨w11, hw11⟩ : ∃ W, W = ((w10.setCell ⟨G11, 0, none⟩ (.int .i64 0)).setCell ⟨G11, 1, none⟩ (.int .u64 0)) := ⟨_, rfl⟩
                have ht10 : Turn (fun j => j = G) w9 w10 := by
                  rw [hw10]
                  exact Turn.setCell (S := fun j => j = G) (Turn.setCell (S := fun j => j = G) (Turn.setCell (S := fun j => j = G) (Turn.setCell (S := fun j => j = G) (Turn.refl _ w9) (Or.inl rfl) _) (Or.inl rfl) _) (Or.inl rfl) _) (Or.inl rfl) _
                have ht11 : Turn (fun j => j = G11) w10 w11 := by
                  rw [hw11]
                  exact Turn.setCell (S := fun j => j = G11) (Turn.setCell (S := fun j => j = G11) (Turn.refl _ w10) (Or.inl rfl) _) (Or.inl rfl) _
                have k10 : BX w10 G10 _ _ := (ht10.block G10 (lt_of_block c10) hne1').trans c10
                have k11 : BX w10 G11 _ _ := (ht10.block G11 (lt_of_block c11) hne2').trans c11
                have kG : BX w10 G 31 #[.slice lo ln lc, .slice po pn pc, .int .i64 k2, .int .i64 m2] := by
                  rw [hw10]
                  exact ((((g9.set 0 _).set 1 _).set 2 _).set 3 _)
                have m10 : BX w11 G10 _ _ := (ht11.block G10 (lt_of_block k10) hne3).trans k10
                have m11 : BX w11 G11 47 #[.int .i64 0, .int .u64 0] := by
                  rw [hw11]
                  exact ((k11.set 0 _).set 1 _)
                have mG : BX w11 G _ _ := (ht11.block G (lt_of_block kG) hne2).trans kG
                have HF11 := Lib.hid ((HF9.out.box ht10 g9 (by decide) HD5.out.out).box ht11 k11 (by decide) HNV11.out)
                have HT11 := Lib.hid (Turn.through (T := fun j => j = G11) (HT9.out.trans (Turn.mono (T := fun g => VS A b (.slice so sn sc) g ∨ g = G) ht10 (fun _ _ e => Or.inr e))) ht11 (fun j e => by rw [show j = G11 from e, HGN.out.2.1]; exact Nat.le_succ _))
                have HM := Lib.hid (show _ ∧ _ ∧ _ from ⟨m10, m11, mG⟩)
                have HW10 := Lib.hid hw10
                have HW11 := Lib.hid hw11
                clear ht10 ht11 c10 c11 g9 k10 k11 kG m10 m11 mG hw10 hw11
                go_upto_region 33 with fail
                rw [← HW10.out, ← HW11.out]
                clear HW10 HW11 l0 d0 l1 d1 v0 v1 v2 v3 y0 y1 y2 y3
                have l0 := HM.out.1.cell 0 rfl
                have l1 := HM.out.1.cell 1 rfl
                have r0 := HM.out.2.1.cell 0 rfl
                have r1 := HM.out.2.1.cell 1 rfl
                have HF12 := HF11
                have HT12 := HT11
                have HG12 := Lib.hid HM.out.2.2
                obtain ⟨w12, rfl⟩ : ∃ W : World, W = w11 := ⟨_, rfl⟩
                go_wp2_with fail
                go_meet
                have HD12 := HD5.out.renew HT12.out HF5.out.noKn HG12.out
                have hx12 : Below w.heap.size w w12 := HX5.out.trans (HT12.out.below (fun j e => by
                  rcases e with e | e
                  · exact HF5.out.base j e
                  · rw [e]; exact HD5.out.ge) HX5.out.size)
                have hz := st_same (i := i + 1) HF12.out HD12 HOK.out ⟨by have := HSZ.out; omega, by have := HSZ.out; omega, by have := HSZ.out; omega⟩ hx12
                exact ⟨false, rfl, rfl, Lib.hid hz⟩
            have z4 : (kd == 4) = false := beq_eq_false_iff_ne.2 e4
            clear e4
            by_cases e5 : kd = 5
            · subst e5
              have HQ1 := Lib.hid (giveUp_fv w5 HF5.out)
              go_wp2_with fail
              refine HQ1.out.mono ?_
              rintro e w6 ⟨rfl, hf6, ht6⟩
              have HF6 := Lib.hid hf6
              have HD6 := Lib.hid (HD5.out.turn ht6 HF5.out.noKn (fun _ _ h => h))
              have HN6 := Lib.hid (show BX w6 G4 _ _ from (ht6.block G4 (lt_of_block HN5.out) HNV.out).trans HN5.out)
              have HX6 := Lib.hid (HX5.out.trans (ht6.below HF5.out.base HX5.out.size))
              clear hf6 ht6 a0 a1 a2 a3 a4 a5 a6 a7 a8 a9 a10 a11 a12 v0 v1 v2 v3
              have a0 := HN6.out.cell 0 rfl
              have a1 := HN6.out.cell 1 rfl
              have a2 := HN6.out.cell 2 rfl
              have a3 := HN6.out.cell 3 rfl
              have a4 := HN6.out.cell 4 rfl
              have a5 := HN6.out.cell 5 rfl
              have a6 := HN6.out.cell 6 rfl
              have a7 := HN6.out.cell 7 rfl
              have a8 := HN6.out.cell 8 rfl
              have a9 := HN6.out.cell 9 rfl
              have a10 := HN6.out.cell 10 rfl
              have a11 := HN6.out.cell 11 rfl
              have a12 := HN6.out.cell 12 rfl
              have v0 := HD6.out.box.cell 0 rfl
              have v1 := HD6.out.box.cell 1 rfl
              have v2 := HD6.out.box.cell 2 rfl
              have v3 := HD6.out.box.cell 3 rfl
              have HQ2 := Lib.hid (rlack_any lo ln lc po pn pc k m 3 0 w6)
              rw [lackK_f k 0, lackM_f k m 0] at HQ2
              obtain ⟨kk, hkk⟩ : ∃ z, z = lackK k false 0 := ⟨_, rfl⟩
              obtain ⟨mm, hmm⟩ : ∃ z, z = lackM k m false 0 := ⟨_, rfl⟩
              rw [← hkk, ← hmm] at HQ2 HF6
              clear hkk hmm
              go_wp2_with fail
              refine HQ2.out.mono ?_
              rintro e w7 ⟨rfl, hb7⟩
              have HF7 := Lib.hid (HF6.out.keep hb7)
              have HD7 := Lib.hid (HD6.out.keep hb7)
              have HN7 := Lib.hid (HN6.out.below hb7)
              have HX7 := Lib.hid (HX6.out.trans (hb7.mono HX6.out.size))
              clear hb7 a0 a1 a2 a3 a4 a5 a6 a7 a8 a9 a10 a11 a12 v0 v1 v2 v3
              have v0 := HD7.out.box.cell 0 rfl
              have v1 := HD7.out.box.cell 1 rfl
              have v2 := HD7.out.box.cell 2 rfl
              have v3 := HD7.out.box.cell 3 rfl
              have y0 := HD7.out.box.frozen 0
              have y1 := HD7.out.box.frozen 1
              have y2 := HD7.out.box.frozen 2
              have y3 := HD7.out.box.frozen 3
              go_wp2_with fail
              go_meet
              have hz := st_end (i := i + 1) HF7.out HD7.out HD7.out.row HD7.out.spr HD7.out.len HD7.out.off HOK.out ⟨by have := HSZ.out; omega, by have := HSZ.out; omega, by have := HSZ.out; omega⟩ HX7.out
              exact ⟨true, rfl, rfl, Lib.hid hz⟩
            have z5 : (kd == 5) = false := beq_eq_false_iff_ne.2 e5
            clear e5
            by_cases e6 : kd = 6
            · subst e6
              have HQ1 := Lib.hid (again_fv w5 HF5.out)
              go_wp2_with fail
              refine HQ1.out.mono ?_
              rintro e w6 ⟨rfl, hf6, ht6⟩
              have HF6 := Lib.hid hf6
              have HD6 := Lib.hid (HD5.out.turn ht6 HF5.out.noKn (fun _ _ h => h))
              have HN6 := Lib.hid (show BX w6 G4 _ _ from (ht6.block G4 (lt_of_block HN5.out) HNV.out).trans HN5.out)
              have HX6 := Lib.hid (HX5.out.trans (ht6.below HF5.out.base HX5.out.size))
              clear hf6 ht6 a0 a1 a2 a3 a4 a5 a6 a7 a8 a9 a10 a11 a12 v0 v1 v2 v3
              have v0 := HD6.out.box.cell 0 rfl
              have v1 := HD6.out.box.cell 1 rfl
              have v2 := HD6.out.box.cell 2 rfl
              have v3 := HD6.out.box.cell 3 rfl
              have y0 := HD6.out.box.frozen 0
              have y1 := HD6.out.box.frozen 1
              have y2 := HD6.out.box.frozen 2
              have y3 := HD6.out.box.frozen 3
              go_wp2_with fail
              go_meet
              have hz := st_need (i := i + 1) HF6.out HD6.out HOK.out ⟨by have := HSZ.out; omega, by have := HSZ.out; omega, by have := HSZ.out; omega⟩ HX6.out
              exact ⟨true, rfl, rfl, Lib.hid hz⟩
            have z6 : (kd == 6) = false := beq_eq_false_iff_ne.2 e6
            clear e6
            go_wp2_with fail
            go_meet
            exact ⟨true, rfl, rfl, Lib.hid (st_same HF5.out HD5.out HOK.out ⟨by have := HSZ.out; omega, by have := HSZ.out; omega, by have := HSZ.out; omega⟩ HX5.out)⟩
          case rest =>
            obtain ⟨bb, rfl, rfl, HSX⟩ := hcut
            clear HF HD HOK HSZ HKV HNV v0 v1 v2 v3
            obtain ⟨so, sn, sc, N, lo, ln, lc, po, pn, pc, ks, ss, k, m, hf, hd, hok, hN, hkl, hsl⟩ := HSX.out.ex
            have HLK := Lib.hid (like14_any so sn sc lo ln lc po pn pc wc hf (by omega) hok hd.row.ks hd.spk)
            have v0 := hd.box.cell 0 rfl
            have v1 := hd.box.cell 1 rfl
            have v2 := hd.box.cell 2 rfl
            have v3 := hd.box.cell 3 rfl
            clear hf hd hok hN hkl hsl a0 a1 a2 a3 a4 a5 a6 a7 a8 a9 a10 a11 a12 HN5 HB5 HX5 HLI
            cases bb <;>
            (go_wp2_with fail
             refine HLK.out.mono ?_
             rintro e w9 ⟨rfl, hb9⟩
             have HS9 := Lib.hid (HSX.out.keep hb9)
             clear hb9 v0 v1 v2 v3
             go_wp2
             go_roundw
             case rel => exact ⟨i + 1, by go_num, by omega, HS9⟩
             case measure => simp [intOf]; omega)
      · obtain rfl : i = n := by omega
        go_wp2_with fail
        refine (HLV.out _).mono ?_
        rintro e w9 ⟨rfl, hb9⟩
        have HX9 := Lib.hid (HS.out.below.trans (hb9.mono HS.out.below.size))
        clear hb9
        go_wp2
        go_ret
        exact ⟨rfl, HX9.out⟩
end Go.Proofs.Ytefmnfplipdnmaa
