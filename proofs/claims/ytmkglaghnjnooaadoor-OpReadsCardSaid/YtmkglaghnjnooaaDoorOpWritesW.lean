/- The law OpWrites, walked: it returns true; nothing that was there has turned. Conditions: those of its list's reading; the table of names. -/
import Derived.Test.YtmkglaghnjnooaaDoorOpBack
import Derived.Test.YtmkglaghnjnooaaDoorLater
namespace Go.Proofs.YtmkglaghnjnooaaDoor
open Go.RowKit

/-- A row of one's own, for an eye in another block. -/
theorem bs_own {w : World} {B eb : Nat} {v : Value} {l : List UInt8} (h : w.ownsRow B 5 1 v l.length (Lib.byteCells l)) (he : w.heap.size ≤ eb) (hl : l.length ≤ 70368744177664) : Bs w eb v l := by
  rcases h.2 with ⟨rfl, hn⟩ | ⟨g, cap, cur, rfl, hb, hg, hnc, hcm, _, _⟩
  · have : l = [] := List.eq_nil_of_length_eq_zero hn
    subst this
    exact Bs.nil _ _
  · have hc := h.cells (g := g) rfl
    refine ⟨_, cap, rfl, hnc, hcm, fun _ => ⟨g, 0, rfl, by have := lt_of_block hg; omega, fun j hj => ?_⟩⟩
    have := hc j _ (by simp [Lib.byteCells, hj]; rfl)
    rw [add_at] at this
    exact this
theorem below_onW {B : Nat} {w V V' : World} (h : Below B w V) (hB : B ≤ w.heap.size) (hb : Below V.heap.size V V') : Below B w V' := h.trans (hb.mono (Nat.le_trans hB h.size))
theorem Ops.mono {w : World} {N M : Nat} {ao : Option Addr} {len : Nat} {X : Nat → OpV} (h : Ops w N ao len X) (hm : N ≤ M) : Ops w M ao len X := fun i hi => by
  obtain ⟨b, off, e, hlt, hc⟩ := h i hi
  exact ⟨b, off, e, by omega, hc⟩
theorem opsB_len (X : Nat → OpV) (len : Nat) (hok : ∀ i, i < len → (X i).ok) (hsh : ∀ i, i < len → (X i).short) : ∀ n, n ≤ len → (opsB X n).length ≤ 500 * n
  | 0, _ => by rw [opsB_zero]; exact Nat.zero_le _
  | n + 1, h => by
    have h1 := opsB_len X len hok hsh n (by omega)
    have h2 := (opBytes_len (X n) (hok n (by omega)).1 (hsh n (by omega))).2
    rw [opsB_succ, List.length_append]
    omega
theorem ew_under {w w' : World} {B eb : Nat} (h : Ew eb w w') (hB : B ≤ eb) (hB2 : B ≤ w.heap.size) : Below B w w' := ⟨h.os, h.tape, h.output, h.size, fun k hk => h.block k (by omega) (by omega)⟩

set_option maxHeartbeats 16000000 in
set_option maxRecDepth 100000 in
theorem opWrites_any (ao : Option Addr) (len cap : Nat) (X : Nat → OpV) (w : World) (hx : Ops w w.heap.size ao len X) (hok : ∀ i, i < len → (X i).ok) (hlen : len ≤ 9223372036854775807) (hnt : NamesAt w) :
    Calls Tryd.prog 4 #[.slice ao len cap] w fun e w' => e = .returned (.bool true) ∧ Below w.heap.size w w' := by
  have HLI := Lib.hid (olight_any ao len cap X w hx hok hlen)
  have HX := Lib.hid hx
  have HK := Lib.hid hok
  have HNT := Lib.hid hnt
  clear hx hok hnt
  go_enter Tryd.func4, Tryd.ntmps4
  go_wp2_with fail
  refine HLI.out.mono ?_
  rintro e w1 ⟨lb, rfl, hlb, hb1⟩
  have HB1 := Lib.hid hb1
  clear hb1 HLI
  cases lb with
  | false =>
    have HLV := Lib.hid (lives16 w1 (HNT.out.below HB1.out))
    go_wp2_with fail
    refine HLV.out.mono ?_
    rintro e w4 ⟨rfl, hb4⟩
    go_wp2
    go_ret
    exact ⟨rfl, HB1.out.trans (hb4.mono HB1.out.size)⟩
  | true =>
  have HSH := Lib.hid (hlb rfl).1
  have h40 := (hlb rfl).2
  clear hlb
  obtain ⟨pb, hpb⟩ : ∃ pb, pb = w1.heap.size := ⟨_, rfl⟩
  have hp0 := pen_new w1
  have hx1 := boxed_below w1 (.cells #[.slice none 0 0] 35)
  obtain ⟨W2, hW2⟩ : ∃ W, W = w1.alloc (.cells #[.slice none 0 0] 35) := ⟨_, rfl⟩
  have hs2 : W2.heap.size = w1.heap.size + 1 := by rw [hW2, World.size_alloc]
  rw [← hW2, ← hpb] at hp0
  rw [← hW2] at hx1
  have HB2 : Hid (Below w.heap.size w W2) := Lib.hid (HB1.out.trans (hx1.mono HB1.out.size))
  have HPB : Hid (w.heap.size ≤ pb ∧ pb < W2.heap.size) := Lib.hid ⟨by have := HB1.out.size; omega, by omega⟩
  have HP2 := Lib.hid hp0
  have HWL := Lib.hid (opWriteL_any pb pb ao len cap X [] W2 ((HX.out.keep HB2.out).mono HB2.out.size) HK.out HSH.out h40 (by simp) hp0 (by omega) (fun hl b off e => by
    obtain ⟨b', off', e', hlt, _⟩ := HX.out 0 hl
    rw [e] at e'
    injection e' with e'; injection e' with e1 e2 _
    have hr := hp0.row
    refine ⟨by have := HPB.out.1; omega, fun e3 => ?_⟩
    have := (hr _ e3.symm).1
    have := HPB.out.1
    omega))
  rw [List.nil_append] at HWL
  have HW2 := Lib.hid hW2
  have HLEN := Lib.hid (opsB_len X len HK.out HSH.out)
  clear hp0 hx1 hW2 hs2
  go_upto_region 4 with fail
  rw [← HW2.out, ← hpb]
  clear HW2 hpb
  go_wp2_with fail
  refine HWL.out.mono ?_
  rintro e w3 ⟨rfl, hd3⟩
  have HP3 := Lib.hid hd3.1
  have HB3 : Hid (Below w.heap.size w w3) := Lib.hid (HB2.out.trans ((hd3.2.below HP2.out (Nat.le_of_lt HPB.out.2)).mono HPB.out.1))
  clear hd3 HWL HP2 HB2
  go_wp2
  go_loopw [4, 20] (fun vw vi wr => ∃ j : Nat, vi = .int .i64 j ∧ j ≤ len ∧ Hid (BAt w3 wr vw (opsB X j))) (fun _ vi _ => len - (intOf vi).toNat)
  case atStart => exact ⟨0, rfl, Nat.zero_le _, Lib.hid ⟨World.ownsRow_nil _ _ _ _, Below.refl _ _⟩⟩
  case round =>
    obtain ⟨j, rfl, hj, hst⟩ := hrel
    have HST := hst
    clear hst
    have HBW : Hid (Below w.heap.size w wr) := Lib.hid (HB3.out.trans (HST.out.below.mono HB3.out.size))
    by_cases hlt : j < len
    · obtain ⟨bk, off, rfl, hbN, hc⟩ := (HX.out.keep HBW.out) j hlt
      have hk := HK.out j hlt
      have hs := HSH.out j hlt
      have hln := opBytes_len _ hk.1 hs
      have hbl := HLEN.out j (by omega)
      have HSU := Lib.hid (opsB_succ X j)
      unfold OpV.bytes at hln HSU
      generalize hxj : X j = x at *
      clear hxj
      obtain ⟨k, key, tx, v, lim⟩ := x
      have c0 := hc 0 _ rfl
      have c1 := hc 1 _ rfl
      have c2 := hc 2 _ rfl
      have c3 := hc 3 _ rfl
      have c4 := hc 4 _ rfl
      obtain ⟨k1, _⟩ := hk
      obtain ⟨s1, s2⟩ := hs
      simp only at k1 s1 s2 hln HSU
      clear hc
      rw [Nat.add_zero] at c0
      have hbz := HST.out.below.size
      obtain ⟨bs, hbs⟩ : ∃ bs, bs = opsB X j := ⟨_, rfl⟩
      rw [← hbs] at HST hbl HSU
      obtain ⟨av, cv, rfl⟩ := own_slice HST.out.own
      have HBS := Lib.hid hbs
      clear hbs
      go_wp2_with fail
      refine (rbytes_any k key tx v lim _ s1 s2 k1).mono ?_
      rintro e w5 hg
      obtain ⟨g, c5, rfl, hcells, hb5⟩ := gives_row hg (by omega)
      have hx5 := boxed_below wr (.cells #[.int .i64 k, .string key, .string tx, .int .u64 (v : Nat), .int .i64 lim] 24)
      have hb5' : Below wr.heap.size wr w5 := hx5.trans (hb5.mono hx5.size)
      have hown0 := own_keepO HST.out.own hb5'
      have hz5 := hb5'.size
      have HB5 : Hid (Below w3.heap.size w3 w5) := Lib.hid (HST.out.below.trans (hb5'.mono hbz))
      obtain ⟨i0, hi, hz0, hz1, hz2⟩ := info_parts Tryd.info5
      clear c0 c1 c2 c3 c4 hg hb5 hx5 hb5'
      generalize opBytes k key tx v lim = pp at *
      go_wp2_with (at_builtin; refine wpList_append_sep _ rfl _ _ 33 rfl w3.heap.size 5 i0 (.int .u8 0) 1 1 Tryd.underlying33 hi hz0 hz1 hz2 rfl (by decide) _ _ _ rfl hown0 ⟨g, 0, none⟩ pp.length c5 (Lib.byteCells pp) rfl ?d1 hcells ?d2 ?d3 ?d4 ?d5 ?_)
      case d1 => rw [Lib.byteCells_length]; omega
      case d2 => intro u hu; simp [Lib.byteCells] at hu; obtain ⟨a, _, rfl⟩ := hu; rfl
      case d3 => unfold maxLen; omega
      case d4 => omega
      case d5 => omega
      intro v6 w6 hown6 hgrow6 _
      have HN6 : Hid (BAt w3 w6 v6 (opsB X (j + 1))) := Lib.hid (by
        rw [HSU.out]
        exact ⟨by rw [List.length_append, Lib.byteCells_append]; exact hown6, HB5.out.grown hgrow6 (by omega) (fun k hk => (hown0.lt k hk).1)⟩)
      obtain ⟨a6, c6, rfl⟩ := own_slice hown6
      clear hown6 hgrow6 hown0 hcells hi hz0 hz1 hz2
      go_wp2
      go_roundw
      case rel => exact ⟨j + 1, by go_num, by omega, HN6⟩
      case measure => simp [intOf]; omega
    · have hjl : j = len := by omega
      subst hjl
      have hL := HLEN.out j (Nat.le_refl _)
      obtain ⟨L, hLq⟩ : ∃ L, L = opsB X j := ⟨_, rfl⟩
      rw [← hLq] at HST hL HP3
      obtain ⟨av, cv, rfl⟩ := own_slice HST.out.own
      have HLQ := Lib.hid hLq
      have HL : Hid (L.length ≤ 70368744177664) := Lib.hid (by omega)
      have HPR := Lib.hid (HP3.out.under HST.out.below)
      have HS : Hid (∀ V, Below wr.drew.heap.size wr.drew V → (convert 33 9 (.slice av L.length cv)).run Tryd.prog V = .ok (.string ⟨L.toArray⟩) V ∧ Pen V pb pb L ∧ Below wr.drew.heap.size wr.drew V) := Lib.hid (fun V h =>
        ⟨conv_own (own_keepO (w := wr.drew) HST.out.own h), Pen.under (w := wr.drew) HPR.out h, h⟩)
      have hbz := HBW.out.size
      clear hLq HP3 HB3
      go_upto_region 11 with fail
      go_region_held_law (fun V => (convert 33 9 (.slice av L.length cv)).run Tryd.prog V = .ok (.string ⟨L.toArray⟩) V ∧ Pen V pb pb L ∧ Below wr.drew.heap.size wr.drew V)
        (first | exact HS.out _ (Below.refl _ _) | exact HS.out _ h9 | assumption)
        (first | (go_at_call 18; refine (penBytes_any pb pb L _ HL.out (And.left (And.right (by assumption)))).mono ?_; rintro e w5 ⟨v5, rfl, hown5, hbel5⟩; have hcv5 := conv_own hown5; have h9 : Below wr.drew.heap.size wr.drew w5 := below_onW (And.right (And.right (by assumption))) (Nat.le_refl _) hbel5; obtain ⟨a5, c5, rfl⟩ := own_slice hown5; clear hown5))
      all_goals
        have HB6 : Hid (Below w.heap.size w w5) := Lib.hid (HBW.out.drew.trans (Below.mono (w := wr.drew) h9 hbz))
        have HP6 := Lib.hid (Pen.under (w := wr.drew) HPR.out h9)
        clear hbel5 hcv5 h9 HS HPR HST
        go_wp2_with fail
        refine (penBytes_any pb pb L _ HL.out HP6.out).mono ?_
        rintro e w7 ⟨v7, rfl, hown7, hbel7⟩
        have hbs7 := bs_own (eb := w7.heap.size) hown7 (Nat.le_refl _) HL.out
        have HB7 : Hid (Below w.heap.size w w7) := Lib.hid (HB6.out.trans (hbel7.mono HB6.out.size))
        obtain ⟨a7, c7, rfl⟩ := own_slice hown7
        clear hown7 hbel7 HP6 HB6
        go_wp2_with fail
        refine (look_any L _ _ _ rfl hbs7).mono ?_
        rintro e w8 ⟨rfl, hk8⟩
        have HE8 : Hid (EyeS w8 w7.heap.size (opsR X j 0, 0) ∧ Below w.heap.size w w8) := Lib.hid ⟨⟨by rw [opsR_zero, ← HLQ.out]; exact hk8.1, fun h => absurd rfl h⟩, HB7.out.trans (ew_under hk8.2 HB7.out.size HB7.out.size)⟩
        have HEB : Hid (w.heap.size ≤ w7.heap.size) := Lib.hid HB7.out.size
        clear hk8 hbs7 HB7
        obtain ⟨eb, heb⟩ : ∃ eb, eb = w7.heap.size := ⟨_, rfl⟩
        rw [← heb] at HE8 HEB ⊢
        clear heb
        go_wp2
        go_loopw [38] (fun vi wq => ∃ i : Nat, vi = .int .i64 i ∧ i ≤ j ∧ Hid (EyeS wq eb (opsR X j i, 0) ∧ Below w.heap.size w wq)) (fun vi _ => j - (intOf vi).toNat)
        case atStart => exact ⟨0, rfl, Nat.zero_le _, HE8⟩
        case round =>
          obtain ⟨i, rfl, hi, hst⟩ := hrel
          obtain ⟨wq, hwq⟩ : ∃ W : World, W = wr := ⟨_, rfl⟩
          rw [← hwq] at hst ⊢
          clear hwq
          have HE := hst
          clear hst
          by_cases hlt2 : i < j
          · obtain ⟨bk, off, rfl, hbN, hc⟩ := (HX.out.keep HE.out.2) i hlt2
            have hk := HK.out i hlt2
            have hs := HSH.out i hlt2
            have HSTEP := Lib.hid (opsR_step X j i hlt2)
            generalize hxj : X i = x at *
            clear hxj
            have HRS := Lib.hid (fun h => read_sound x h hk.1 (opsR X j (i + 1)))
            have HRU := Lib.hid (fun h => read_unsound x h (opsR X j (i + 1)))
            have HPL := Lib.hid x.plain_arr
            obtain ⟨sd, hsd⟩ : ∃ sd, sd = x.sound := ⟨_, rfl⟩
            rw [← hsd] at HRS HRU
            generalize hpl : x.plain = y at *
            clear hpl
            obtain ⟨p0, p1, p2, p3, p4⟩ := y
            obtain ⟨k, key, tx, v, lim⟩ := x
            have c0 := hc 0 _ rfl
            have c1 := hc 1 _ rfl
            have c2 := hc 2 _ rfl
            have c3 := hc 3 _ rfl
            have c4 := hc 4 _ rfl
            obtain ⟨k1, _⟩ := hk
            obtain ⟨s1, s2⟩ := hs
            unfold OpV.sound at hsd
            simp only at k1 s1 s2 hsd HPL
            clear hc
            rw [Nat.add_zero] at c0
            have HSD := Lib.hid (fun W => rsound_any k key tx v lim W (by omega) (by omega))
            have HRP := Lib.hid (fun W => rplain_any k key tx v lim W)
            rw [← hsd] at HSD
            rw [← HPL.out] at HRP
            unfold OpV.arr at HRP
            simp only at HRP
            obtain ⟨rest, hrest⟩ : ∃ rest, rest = opsR X j (i + 1) := ⟨_, rfl⟩
            rw [← hrest] at HRS HRU HSTEP
            have HREST := Lib.hid hrest
            have hxq := boxed_below wq (.cells #[.int .i64 k, .string key, .string tx, .int .u64 (v : Nat), .int .i64 lim] 24)
            have hoq := BX.new wq 24 #[.int .i64 k, .string key, .string tx, .int .u64 (v : Nat), .int .i64 lim]
            have hqz := HE.out.2.size
            have heq : EyeS wq eb (((⟨k, key, tx, v, lim⟩ : OpV).bytes ++ rest), 0) := by rw [← HSTEP.out]; exact HE.out.1
            have hRD := opRead_any eb _ (wq.alloc (.cells #[.int .i64 k, .string key, .string tx, .int .u64 (v : Nat), .int .i64 lim] 24)) (heq.under hxq)
            have heblt := heq.lt
            have HXQ := Lib.hid hxq
            have HOQ := Lib.hid hoq
            have HQZ := Lib.hid hqz
            have HEL := Lib.hid heblt
            clear hrest heq HPL hsd hxq hoq hqz heblt
            cases sd with
            | true =>
              rw [HRS.out rfl] at hRD
              unfold OpV.arr at hRD
              simp only at hRD
              have HRD := Lib.hid hRD
              clear hRD
              go_wp2_with fail
              refine HRD.out.mono ?_
              rintro e w9 ⟨rfl, hr9⟩
              have hoq := HOQ.out
              have hqz := HQZ.out
              have heblt := HEL.out
              have hxq := HXQ.out
              have hlt9 := lt_of_block hoq
              have h9z := hr9.2.size
              simp only [World.size_alloc] at h9z
              have HO9 : Hid (BX w9 wq.heap.size 24 #[.int .i64 k, .string key, .string tx, .int .u64 (v : Nat), .int .i64 lim]) := Lib.hid ((hr9.2.block _ hlt9 (by omega)).trans hoq)
              have HB9 : Hid (Below w.heap.size w w9) := Lib.hid ((HE.out.2.trans (hxq.mono hqz)).trans (ew_under hr9.2 HEB.out (by rw [World.size_alloc]; omega)))
              have HY9 := Lib.hid (BX.new w9 24 #[.int .i64 p0, .string p1, .string p2, .int .u64 (p3 : Nat), .int .i64 p4])
              have hx9 := boxed_below w9 (.cells #[.int .i64 p0, .string p1, .string p2, .int .u64 (p3 : Nat), .int .i64 p4] 24)
              obtain ⟨WA, hWA⟩ : ∃ W, W = w9.alloc (.cells #[.int .i64 p0, .string p1, .string p2, .int .u64 (p3 : Nat), .int .i64 p4] 24) := ⟨_, rfl⟩
              rw [← hWA] at HY9 hx9
              have HOA := Lib.hid (HO9.out.below hx9)
              have HEA := Lib.hid (hr9.1.under hx9)
              have HBA : Hid (Below w.heap.size w WA) := Lib.hid (HB9.out.trans (hx9.mono HB9.out.size))
              have HWA := Lib.hid hWA
              obtain ⟨gx, hgx⟩ : ∃ g, g = w9.heap.size := ⟨_, rfl⟩
              rw [← hgx] at HY9
              clear hlt9 h9z hx9 hWA hr9 hxq hoq hqz heblt HO9 HB9 c0 c1 c2 c3 c4
              go_upto_region 18 with fail
              rw [← HWA.out, ← hgx]
              clear HWA hgx
              have a0 : ∀ p : Later WA, p.w.cell? ⟨wq.heap.size, 0, none⟩ = some (.int .i64 k) := fun p => (HOA.out.below p.h).cell 0 rfl
              have a1 : ∀ p : Later WA, p.w.cell? ⟨wq.heap.size, 1, none⟩ = some (.string key) := fun p => (HOA.out.below p.h).cell 1 rfl
              have a2 : ∀ p : Later WA, p.w.cell? ⟨wq.heap.size, 2, none⟩ = some (.string tx) := fun p => (HOA.out.below p.h).cell 2 rfl
              have a3 : ∀ p : Later WA, p.w.cell? ⟨wq.heap.size, 3, none⟩ = some (.int .u64 (v : Nat)) := fun p => (HOA.out.below p.h).cell 3 rfl
              have a4 : ∀ p : Later WA, p.w.cell? ⟨wq.heap.size, 4, none⟩ = some (.int .i64 lim) := fun p => (HOA.out.below p.h).cell 4 rfl
              have b0 : ∀ p : Later WA, p.w.cell? ⟨gx, 0, none⟩ = some (.int .i64 p0) := fun p => (HY9.out.below p.h).cell 0 rfl
              have b1 : ∀ p : Later WA, p.w.cell? ⟨gx, 1, none⟩ = some (.string p1) := fun p => (HY9.out.below p.h).cell 1 rfl
              have b2 : ∀ p : Later WA, p.w.cell? ⟨gx, 2, none⟩ = some (.string p2) := fun p => (HY9.out.below p.h).cell 2 rfl
              have b3 : ∀ p : Later WA, p.w.cell? ⟨gx, 3, none⟩ = some (.int .u64 (p3 : Nat)) := fun p => (HY9.out.below p.h).cell 3 rfl
              have b4 : ∀ p : Later WA, p.w.cell? ⟨gx, 4, none⟩ = some (.int .i64 p4) := fun p => (HY9.out.below p.h).cell 4 rfl
              refine wp_region_later (by kernel_rfl) (by kernel_rfl) ?_
              repeat (quiet_step (first | (go_at_call 9; (with_reducible exact later_of (HSD.out _))) | (go_at_call 11; (with_reducible exact later_of (HRP.out _)))))
              refine wpQuiet_nil ?_
              intro wz hw'
              have hwz : Below WA.heap.size WA wz := by
                obtain ⟨⟨wy, hwy⟩, hw''⟩ := hw'
                rw [hw'']
                exact hwy
              clear hw'
              have HFIN : Hid (EyeS wz eb (opsR X j (i + 1), 0) ∧ Below w.heap.size w wz) := Lib.hid ⟨by rw [← HREST.out]; exact HEA.out.under hwz, HBA.out.trans (hwz.mono HBA.out.size)⟩
              clear a0 a1 a2 a3 a4 b0 b1 b2 b3 b4 hwz
              go_wp2
              go_roundw
              case rel => exact ⟨i + 1, by go_num, by omega, HFIN⟩
              case measure => simp [intOf]; omega
            | false =>
              rw [HRU.out rfl] at hRD
              unfold OpV.arr opZ at hRD
              simp only at hRD
              have HRD := Lib.hid hRD
              clear hRD
              go_wp2_with fail
              refine HRD.out.mono ?_
              rintro e w9 ⟨rfl, hr9⟩
              have hoq := HOQ.out
              have hqz := HQZ.out
              have heblt := HEL.out
              have hxq := HXQ.out
              have hlt9 := lt_of_block hoq
              have h9z := hr9.2.size
              simp only [World.size_alloc] at h9z
              have HO9 : Hid (BX w9 wq.heap.size 24 #[.int .i64 k, .string key, .string tx, .int .u64 (v : Nat), .int .i64 lim]) := Lib.hid ((hr9.2.block _ hlt9 (by omega)).trans hoq)
              have HB9 : Hid (Below w.heap.size w w9) := Lib.hid ((HE.out.2.trans (hxq.mono hqz)).trans (ew_under hr9.2 HEB.out (by rw [World.size_alloc]; omega)))
              have HY9 := Lib.hid (BX.new w9 24 #[.int .i64 0, .string ⟨#[]⟩, .string ⟨#[]⟩, .int .u64 0, .int .i64 0])
              have hx9 := boxed_below w9 (.cells #[.int .i64 0, .string ⟨#[]⟩, .string ⟨#[]⟩, .int .u64 0, .int .i64 0] 24)
              obtain ⟨WA, hWA⟩ : ∃ W, W = w9.alloc (.cells #[.int .i64 0, .string ⟨#[]⟩, .string ⟨#[]⟩, .int .u64 0, .int .i64 0] 24) := ⟨_, rfl⟩
              rw [← hWA] at HY9 hx9
              have HOA := Lib.hid (HO9.out.below hx9)
              have HEA := Lib.hid (hr9.1.under hx9)
              have HBA : Hid (Below w.heap.size w WA) := Lib.hid (HB9.out.trans (hx9.mono HB9.out.size))
              have HWA := Lib.hid hWA
              obtain ⟨gx, hgx⟩ : ∃ g, g = w9.heap.size := ⟨_, rfl⟩
              rw [← hgx] at HY9
              clear hlt9 h9z hx9 hWA hr9 hxq hoq hqz heblt HO9 HB9 c0 c1 c2 c3 c4
              go_upto_region 18 with fail
              rw [← HWA.out, ← hgx]
              clear HWA hgx
              have a0 : ∀ p : Later WA, p.w.cell? ⟨wq.heap.size, 0, none⟩ = some (.int .i64 k) := fun p => (HOA.out.below p.h).cell 0 rfl
              have a1 : ∀ p : Later WA, p.w.cell? ⟨wq.heap.size, 1, none⟩ = some (.string key) := fun p => (HOA.out.below p.h).cell 1 rfl
              have a2 : ∀ p : Later WA, p.w.cell? ⟨wq.heap.size, 2, none⟩ = some (.string tx) := fun p => (HOA.out.below p.h).cell 2 rfl
              have a3 : ∀ p : Later WA, p.w.cell? ⟨wq.heap.size, 3, none⟩ = some (.int .u64 (v : Nat)) := fun p => (HOA.out.below p.h).cell 3 rfl
              have a4 : ∀ p : Later WA, p.w.cell? ⟨wq.heap.size, 4, none⟩ = some (.int .i64 lim) := fun p => (HOA.out.below p.h).cell 4 rfl
              have b0 : ∀ p : Later WA, p.w.cell? ⟨gx, 0, none⟩ = some (.int .i64 0) := fun p => (HY9.out.below p.h).cell 0 rfl
              have b1 : ∀ p : Later WA, p.w.cell? ⟨gx, 1, none⟩ = some (.string ⟨#[]⟩) := fun p => (HY9.out.below p.h).cell 1 rfl
              have b2 : ∀ p : Later WA, p.w.cell? ⟨gx, 2, none⟩ = some (.string ⟨#[]⟩) := fun p => (HY9.out.below p.h).cell 2 rfl
              have b3 : ∀ p : Later WA, p.w.cell? ⟨gx, 3, none⟩ = some (.int .u64 0) := fun p => (HY9.out.below p.h).cell 3 rfl
              have b4 : ∀ p : Later WA, p.w.cell? ⟨gx, 4, none⟩ = some (.int .i64 0) := fun p => (HY9.out.below p.h).cell 4 rfl
              refine wp_region_later (by kernel_rfl) (by kernel_rfl) ?_
              repeat (quiet_step (first | (go_at_call 9; (with_reducible exact later_of (HSD.out _))) | (go_at_call 11; (with_reducible exact later_of (HRP.out _)))))
              refine wpQuiet_nil ?_
              intro wz hw'
              have hwz : Below WA.heap.size WA wz := by
                obtain ⟨⟨wy, hwy⟩, hw''⟩ := hw'
                rw [hw'']
                exact hwy
              clear hw'
              have HFIN : Hid (EyeS wz eb ([], 10) ∧ Below w.heap.size w wz) := Lib.hid ⟨HEA.out.under hwz, HBA.out.trans (hwz.mono HBA.out.size)⟩
              clear a0 a1 a2 a3 a4 b0 b1 b2 b3 b4 hwz
              go_wp2_with fail
              refine (fault_any eb 10 [] _ HFIN.out.1.1).mono ?_
              rintro e w20 ⟨rfl, h20⟩
              rw [← h20]
              clear h20
              have HLV := Lib.hid (lives16 _ (HNT.out.below HFIN.out.2))
              go_wp2_with fail
              refine HLV.out.mono ?_
              rintro e w21 ⟨rfl, hb21⟩
              go_wp2
              go_ret
              exact ⟨rfl, HFIN.out.2.trans (hb21.mono HFIN.out.2.size)⟩
          · have hij : i = j := by omega
            subst hij
            have he := HE.out.1.1
            rw [opsR_end X i i (Nat.le_refl _)] at he
            have HCL := Lib.hid (close_end eb 0 _ he)
            have HLV := Lib.hid (lives16 wq (HNT.out.below HE.out.2))
            clear he
            go_wp2_with fail
            refine HCL.out.mono ?_
            rintro e w20 ⟨rfl, h20⟩
            rw [← h20]
            clear h20
            go_wp2_with fail
            refine HLV.out.mono ?_
            rintro e w21 ⟨rfl, hb21⟩
            go_wp2
            go_ret
            exact ⟨rfl, HE.out.2.trans (hb21.mono HE.out.2.size)⟩
end Go.Proofs.YtmkglaghnjnooaaDoor
