/- The law AnswerWrites, walked: it returns true; nothing that was there has turned. Conditions: a value below 2^64, as in any answer; the table of names. -/
import Derived.Test.YtgckgagnodkhjaaRRRRDoorAnsBytes
import Derived.Test.YtgckgagnodkhjaaRRRRDoorAnsTellsW
import Derived.Test.YtgckgagnodkhjaaRRRRDoorLater
namespace Go.Proofs.YtgckgagnodkhjaaRRRRDoor
open Go.RowKit

/-- A row of one's own, for an eye in another block. -/
theorem bs_own {w : World} {B eb : Nat} {v : Value} {l : List UInt8} (h : w.ownsRow B 5 1 v l.length (Lib.byteCells l)) (he : w.heap.size ≤ eb) (hl : l.length ≤ 70368744177664) : Bs w eb v l := by
  rcases h.2 with ⟨rfl, hn⟩ | ⟨g, cap, cur, rfl, hb, hg, hnc, hcm, _, _⟩
  · have : l = [] := List.eq_nil_of_length_eq_zero hn
    subst this
    exact Bs.nil _ _
  · have hc := h.cells (g := g) rfl
    refine ⟨_, cap, rfl, hnc, hcm, fun _ => ⟨g, 0, rfl, by have := lt_of_block hg; omega, fun j hj => ?_⟩⟩
    have := hc j _ (by simp [Lib.byteCells, hj]; rfl)
    rw [add_at] at this
    exact this
theorem ew_under {w w' : World} {B eb : Nat} (h : Ew eb w w') (hB : B ≤ eb) (hB2 : B ≤ w.heap.size) : Below B w w' := ⟨h.os, h.tape, h.output, h.size, fun k hk => h.block k (by omega) (by omega)⟩
theorem ansBytes_len (k : Int) (key : ByteArray) (v : Nat) (ps : List (ByteArray × Int)) (hv : v < 18446744073709551616) (hz : ∀ i, i < ps.length → 0 ≤ (ntp ps i).2 ∧ (ntp ps i).2 < 18446744073709551616) : (ansBytes k key v ps).length ≤ 400000 := by
  unfold ansBytes
  split
  · rename_i hs
    obtain ⟨⟨h1, h2⟩, hy, hn, hp⟩ := sound_parts17 hs
    have l1 := Lib.uvarint_length64 (x := k.toNat) (by omega)
    have l2 := txtL_len key hy
    have l3 := Lib.uvarint_length64 hv
    have l4 := Lib.uvarint_length64 (x := ps.length) (by omega)
    have l5 := pairs_len ps (fun i hi => ⟨hp i hi, (hz i hi).2⟩) ps.length (Nat.le_refl _)
    rw [List.take_length] at l5
    unfold ansBytesS
    simp only [List.length_append]
    omega
  · rw [uv0]; simp

theorem ansRead_all (k : Int) (key : ByteArray) (v : Nat) (ps : List (ByteArray × Int)) (hv : v < 18446744073709551616) (hz : ∀ i, i < ps.length → 0 ≤ (ntp ps i).2 ∧ (ntp ps i).2 < 18446744073709551616) :
    ∃ k7 t7 v7 ps7 s7, ansReadF (ansBytes k key v ps, 0) = (((k7, t7, v7, ps7), ansSoundB k key ps), s7) ∧ (ansSoundB k key ps = true → ((k7 : Nat) : Int) = k ∧ t7 = key ∧ v7 = v ∧ ps7 = ps ∧ s7 = (([], 0) : ES)) := by
  cases hs : ansSoundB k key ps with
  | false =>
    have h := ansRead_unsound k key v ps [] hs
    rw [List.append_nil] at h
    rcases hq : ansReadF (ansBytes k key v ps, 0) with ⟨⟨⟨k7, t7, v7, ps7⟩, ok⟩, s7⟩
    rw [hq] at h
    simp only at h
    subst h
    exact ⟨_, _, _, _, _, rfl, fun h => by cases h⟩
  | true =>
    have h := ansRead_sound k key v ps [] hs hv hz
    rw [List.append_nil] at h
    obtain ⟨⟨h1, _⟩, _⟩ := sound_parts17 hs
    exact ⟨_, _, _, _, _, h, fun _ => ⟨Int.toNat_of_nonneg (by omega), rfl, rfl, rfl, rfl⟩⟩
theorem Pen.ew {w w' : World} {B pb eb : Nat} {l : List UInt8} (h : Pen w B pb l) (he : Ew eb w w') (hne : ∀ k, k = pb ∨ penRow w pb = some k → k < eb) : Pen w' B pb l :=
  h.keep fun k hk => he.block k (by rcases hk with rfl | hk; exact h.lt; exact (h.row k hk).2.1) (by have := hne k hk; omega)

set_option maxHeartbeats 8000000 in
set_option maxRecDepth 100000 in
theorem ansWrites_any (k : Int) (key : ByteArray) (v : Nat) (ao : Option Addr) (c : Nat) (ps : List (ByteArray × Int)) (w : World) (hr : RdP w (.slice ao ps.length c) ps) (hv : v < 18446744073709551616) (hz : ∀ i, i < ps.length → 0 ≤ (ntp ps i).2 ∧ (ntp ps i).2 < 18446744073709551616) (hnt : NamesAt17 w) :
    Calls Tryd.prog 4 #[.agg #[.int .i64 k, .string key, .int .u64 (v : Nat), .slice ao ps.length c]] w fun e w' => e = .returned (.bool true) ∧ Below w.heap.size w w' := by
  have n0 := BX.new w 25 #[.int .i64 k, .string key, .int .u64 (v : Nat), .slice ao ps.length c]
  have hx := boxed_below w (.cells #[.int .i64 k, .string key, .int .u64 (v : Nat), .slice ao ps.length c] 25)
  obtain ⟨W1, hW1⟩ : ∃ W, W = w.alloc (.cells #[.int .i64 k, .string key, .int .u64 (v : Nat), .slice ao ps.length c] 25) := ⟨_, rfl⟩
  rw [← hW1] at n0 hx
  have HW := Lib.hid hW1
  have HN := Lib.hid n0
  have HX := Lib.hid hx
  have HR := Lib.hid hr
  have HNT := Lib.hid hnt
  have HV := Lib.hid hv
  have HZ := Lib.hid hz
  have HL := Lib.hid (light17_any k (v : Nat) key ao ps.length c ps W1 (hr.keep hx))
  have c0 : W1.cell? ⟨w.heap.size, 0, none⟩ = some (.int .i64 k) := n0.cell 0 rfl
  have c1 : W1.cell? ⟨w.heap.size, 1, none⟩ = some (.string key) := n0.cell 1 rfl
  have c2 : W1.cell? ⟨w.heap.size, 2, none⟩ = some (.int .u64 (v : Nat)) := n0.cell 2 rfl
  have c3 : W1.cell? ⟨w.heap.size, 3, none⟩ = some (.slice ao ps.length c) := n0.cell 3 rfl
  clear n0 hx hW1 hr hnt hv hz
  go_enter Tryd.func4, Tryd.ntmps4
  go_upto_region 1 with fail
  rw [← HW.out]
  clear HW
  go_wp2_with fail
  refine HL.out.mono ?_
  rintro e w2 ⟨b1, rfl, _, hb2⟩
  have HY2 := Lib.hid hb2
  have HX2 : Hid (Below w.heap.size w w2) := Lib.hid (HX.out.trans (hb2.mono HX.out.size))
  clear c0 c1 c2 c3 HL hb2
  cases b1 with
  | false =>
    have HLV := Lib.hid (lives17 w2 (HNT.out.below HX2.out))
    go_wp2_with fail
    refine HLV.out.mono ?_
    rintro e wl ⟨rfl, hbl⟩
    go_wp2
    go_ret
    exact ⟨rfl, HX2.out.trans (hbl.mono HX2.out.size)⟩
  | true =>
  obtain ⟨pb, hpb⟩ : ∃ pb, pb = w2.heap.size := ⟨_, rfl⟩
  have hp0 := pen_new w2
  have hx3 := boxed_below w2 (.cells #[.slice none 0 0] 38)
  obtain ⟨W3, hW3⟩ : ∃ W, W = w2.alloc (.cells #[.slice none 0 0] 38) := ⟨_, rfl⟩
  have hs3 : W3.heap.size = w2.heap.size + 1 := by rw [hW3, World.size_alloc]
  rw [← hW3, ← hpb] at hp0
  rw [← hW3] at hx3
  have HX3 : Hid (Below w.heap.size w W3) := Lib.hid (HX2.out.trans (hx3.mono HX2.out.size))
  have HN3 := Lib.hid ((HN.out.below HY2.out).below hx3)
  have HPB : Hid (w.heap.size < pb ∧ pb < W3.heap.size) := Lib.hid ⟨by have := lt_of_block HN.out; have := HY2.out.size; omega, by omega⟩
  have HP3 := Lib.hid hp0
  have HLN := Lib.hid (ansBytes_len k key v ps HV.out HZ.out)
  have HWR := Lib.hid (ansWrite_any pb pb k v key ao ps.length c ps [] W3 (HNT.out.below HX3.out) (HR.out.keep HX3.out) (fun p hp h0 => by
    obtain ⟨g, o, e, hc⟩ := HR.out.at_ 0 h0
    have h1 := (hc 0 h0).1
    have h2 := World.block_lt_of_cell? w _ h1
    rw [e] at hp
    injection hp with hp
    subst hp
    have := HPB.out.1
    show g < pb
    have h2' : g < w.heap.size := h2
    omega) HV.out HZ.out (by simp) hp0 (by have := HPB.out.2; omega))
  rw [List.nil_append] at HWR
  have HW3 := Lib.hid hW3
  have c0 : W3.cell? ⟨w.heap.size, 0, none⟩ = some (.int .i64 k) := HN3.out.cell 0 rfl
  have c1 : W3.cell? ⟨w.heap.size, 1, none⟩ = some (.string key) := HN3.out.cell 1 rfl
  have c2 : W3.cell? ⟨w.heap.size, 2, none⟩ = some (.int .u64 (v : Nat)) := HN3.out.cell 2 rfl
  have c3 : W3.cell? ⟨w.heap.size, 3, none⟩ = some (.slice ao ps.length c) := HN3.out.cell 3 rfl
  clear hp0 hx3 hW3 hs3
  go_upto_region 4 with fail
  rw [← HW3.out, ← hpb]
  clear HW3 hpb
  go_wp2_with fail
  refine HWR.out.mono ?_
  rintro e w4 ⟨rfl, hd4⟩
  have HP4 := Lib.hid hd4.1
  have hb34 := hd4.2.below HP3.out (Nat.le_of_lt HPB.out.2)
  have HN4 : Hid (BX w4 w.heap.size 25 #[.int .i64 k, .string key, .int .u64 (v : Nat), .slice ao ps.length c]) := Lib.hid ((hb34.block w.heap.size HPB.out.1).trans HN3.out)
  have HX4 : Hid (Below w.heap.size w w4) := Lib.hid (HX3.out.trans (hb34.mono (Nat.le_of_lt HPB.out.1)))
  clear hd4 hb34 HWR HP3 HX3 HN3 c0 c1 c2 c3
  obtain ⟨L, hL⟩ : ∃ L, L = ansBytes k key v ps := ⟨_, rfl⟩
  rw [← hL] at HP4 HLN
  have HLQ := Lib.hid hL
  clear hL
  have HLL : Hid (L.length ≤ 70368744177664) := Lib.hid (by have := HLN.out; omega)
  go_wp2_with fail
  refine (penBytes_any pb pb L _ HLL.out HP4.out).mono ?_
  rintro e w5 ⟨v5, rfl, hown5, hbel5⟩
  have hbs5 := bs_own (eb := w5.heap.size) hown5 (Nat.le_refl _) HLL.out
  have HP5 := Lib.hid (HP4.out.under hbel5)
  have HN5 := Lib.hid (HN4.out.below hbel5)
  have HX5 : Hid (Below w.heap.size w w5) := Lib.hid (HX4.out.trans (hbel5.mono HX4.out.size))
  have HPL5 : Hid (pb < w5.heap.size) := Lib.hid HP5.out.lt
  obtain ⟨a5, d5, rfl⟩ := own_slice hown5
  clear hown5 hbel5 HP4 HN4 HX4
  go_wp2_with fail
  refine (look_any L _ _ _ rfl hbs5).mono ?_
  rintro e w6 ⟨rfl, hk6⟩
  have HB56 := Lib.hid (ew_under (B := w5.heap.size) hk6.2 (Nat.le_refl _) (Nat.le_refl _))
  have HE6 : Hid (EyeS w6 w5.heap.size (L, 0)) := Lib.hid ⟨hk6.1, fun h => absurd rfl h⟩
  have HP6 := Lib.hid (HP5.out.under HB56.out)
  have HPR6 : Hid (∀ k, k = pb ∨ penRow w6 pb = some k → k < w5.heap.size) := Lib.hid (fun k hk => by
    rw [penRow_under HP5.out HB56.out] at hk
    rcases hk with rfl | hk
    · exact HP5.out.lt
    · exact (HP5.out.row k hk).2.1)
  have HN6 := Lib.hid (HN5.out.below HB56.out)
  have HX6 : Hid (Below w.heap.size w w6) := Lib.hid (HX5.out.trans (HB56.out.mono HX5.out.size))
  clear hk6 hbs5 HP5 HN5
  obtain ⟨eb, heb⟩ : ∃ eb, eb = w5.heap.size := ⟨_, rfl⟩
  rw [← heb] at HE6 HPL5 HPR6 ⊢
  have HEB : Hid (w.heap.size < eb ∧ pb < eb ∧ w.heap.size ≤ w6.heap.size) := Lib.hid ⟨by have := HPB.out.1; have := HPL5.out; omega, HPL5.out, HX6.out.size⟩
  clear heb HPL5 HB56 HX5
  obtain ⟨k7, t7, v7, ps7, s7, hq, himp⟩ := ansRead_all k key v ps HV.out HZ.out
  have hrd := read17_any eb (L, 0) w6 HE6.out (HNT.out.ew (w' := w6) (eb := eb) (by exact (ew_of_below (HX6.out.mono (Nat.le_refl _)))) (by have := HEB.out.1; omega))
  rw [← HLQ.out] at hq
  rw [hq] at hrd
  obtain ⟨sd, hsd⟩ : ∃ sd, sd = ansSoundB k key ps := ⟨_, rfl⟩
  rw [← hsd] at hrd himp
  have HRD := Lib.hid hrd
  have HIM := Lib.hid himp
  have HSD := Lib.hid hsd
  clear hrd himp hsd hq
  go_wp2_with fail
  refine HRD.out.mono ?_
  rintro e w7 ⟨ao7, c7, rfl, hr7, hd7⟩
  have hb7 : Below eb w6 w7 := ew_under hd7.2 (Nat.le_refl _) (Nat.le_of_lt HE6.out.lt)
  have HX7 : Hid (Below w.heap.size w w7) := Lib.hid (HX6.out.trans (hb7.mono (Nat.le_of_lt HEB.out.1)))
  have HN7 : Hid (BX w7 w.heap.size 25 #[.int .i64 k, .string key, .int .u64 (v : Nat), .slice ao ps.length c]) := Lib.hid ((hb7.block _ HEB.out.1).trans HN6.out)
  have HP7 := Lib.hid (HP6.out.ew hd7.2 HPR6.out)
  have hx8 := boxed_below w7 (.cells #[.int .i64 (k7 : Nat), .string t7, .int .u64 (v7 : Nat), .slice ao7 ps7.length c7] 25)
  have n8 := BX.new w7 25 #[.int .i64 (k7 : Nat), .string t7, .int .u64 (v7 : Nat), .slice ao7 ps7.length c7]
  have HX8 := Lib.hid (HX7.out.trans (hx8.mono HX7.out.size))
  have HN8 := Lib.hid (HN7.out.below hx8)
  have HP8 := Lib.hid (HP7.out.under hx8)
  have HE8 := Lib.hid (hd7.1.under hx8)
  have HR8 := Lib.hid (hr7.keep hx8)
  have HM8 := Lib.hid n8
  clear hb7 hd7 hr7 hx8 n8 HX7 HN7 HP7 HRD HE6 HP6 HN6 HX6 HPR6
  go_upto_region 7 with fail
  obtain ⟨W8, hW8⟩ : ∃ W, W = w7.alloc (.cells #[.int .i64 (k7 : Nat), .string t7, .int .u64 (v7 : Nat), .slice ao7 ps7.length c7] 25) := ⟨_, rfl⟩
  rw [← hW8] at HX8 HN8 HP8 HE8 HR8 HM8 ⊢
  clear hW8
  have HRW : Hid (∀ V, Below W8.heap.size W8 V → RdP V (.slice ao ps.length c) ps) := Lib.hid (fun V h => (HR.out.keep HX8.out).keep h)
  have HS : Hid (∀ V, Below W8.heap.size W8 V → V.cell? ⟨w.heap.size, 0, none⟩ = some (.int .i64 k) ∧ V.cell? ⟨w.heap.size, 1, none⟩ = some (.string key) ∧ V.cell? ⟨w.heap.size, 2, none⟩ = some (.int .u64 (v : Nat)) ∧ V.cell? ⟨w.heap.size, 3, none⟩ = some (.slice ao ps.length c)) := Lib.hid (fun V h => by
    have hb := HN8.out.below h
    exact ⟨hb.cell 0 rfl, hb.cell 1 rfl, hb.cell 2 rfl, hb.cell 3 rfl⟩)
  go_cut [31] (fun sl wx => sl = .bool false ∧ Hid (Below W8.heap.size W8 wx))
  case first =>
    have hS0 := HS.out _ (Below.refl W8.heap.size W8).drew
    go_region_held_law (fun V => V.cell? ⟨w.heap.size, 0, none⟩ = some (.int .i64 k) ∧ V.cell? ⟨w.heap.size, 1, none⟩ = some (.string key) ∧ V.cell? ⟨w.heap.size, 2, none⟩ = some (.int .u64 (v : Nat)) ∧ V.cell? ⟨w.heap.size, 3, none⟩ = some (.slice ao ps.length c))
      (first | (with_reducible exact hS0) | (with_reducible exact HS.out _ hbA) | (with_reducible exact HS.out _ hbB) | (with_reducible exact HS.out _ hbC) | (with_reducible assumption))
      (first
        | (go_at_call 16; refine (penBytes_any pb pb L _ HLL.out (HP8.out.under (Below.refl _ _).drew)).mono ?_; rintro e wa ⟨va, rfl, howna, hba⟩; have hbA : Below W8.heap.size W8 wa := (Below.refl W8.heap.size W8).drew.trans hba; have hcvA := conv_own howna; have HOA := Lib.hid howna; obtain ⟨aa, ca, hva⟩ := own_slice howna; subst hva; clear howna hba)
        | (go_at_call 18; refine (rbytes17_any k key v ao c ps _ (HRW.out _ hbA) HV.out HZ.out).mono ?_; rintro e wb hgb; rw [← HLQ.out] at hgb; obtain ⟨vb, rfl, hownb, hbb⟩ := hgb; have hbB : Below W8.heap.size W8 wb := hbA.trans (hbb.mono hbA.size); have hcvB := conv_own hownb; have hcvAB := conv_own (own_keepO HOA.out hbb); obtain ⟨ab, cb, hvb⟩ := own_slice hownb; subst hvb; clear hownb hbb)
        | (go_at_call 10; refine (ransSound_any k (v : Nat) key ao ps.length c ps _ (HRW.out _ hbB)).mono ?_; rintro e wd ⟨rfl, hbd⟩; rw [← HSD.out]; have hbC : Below W8.heap.size W8 wd := hbB.trans (hbd.mono hbB.size); clear hbd))
    all_goals first | go_meet | (go_step; go_meet) | (go_wp2_with fail; go_meet)
    all_goals exact ⟨by first | rfl | simp, Lib.hid hbC⟩
  case rest =>
    obtain ⟨rfl, HB9⟩ := hcut
    have HXc : Hid (Below w.heap.size w wc) := Lib.hid (HX8.out.trans (HB9.out.mono HX8.out.size))
    clear HS HP8 HLN HLL
    cases sd with
    | false =>
      have HLV := Lib.hid (lives17 wc (HNT.out.below HXc.out))
      go_wp2_with fail
      refine HLV.out.mono ?_
      rintro e wl ⟨rfl, hbl⟩
      go_wp2
      go_ret
      exact ⟨rfl, HXc.out.trans (hbl.mono HXc.out.size)⟩
    | true =>
      obtain ⟨h1, rfl, rfl, rfl, rfl⟩ := HIM.out rfl
      have nA := HN8.out.below HB9.out
      have nB := HM8.out.below HB9.out
      obtain ⟨gb, hgb⟩ : ∃ gb, gb = w7.heap.size := ⟨_, rfl⟩
      rw [← hgb] at nB ⊢
      clear hgb
      rw [h1] at nB
      have hr1 := HRW.out wc HB9.out
      have hr2 := HR8.out.keep HB9.out
      have HSA := Lib.hid (ansSame_any k (v7 : Nat) k (v7 : Nat) t7 t7 ao ao7 ps7.length c ps7.length c7 ps7 ps7 true wc hr1 hr2 (by simp))
      have HE9 := Lib.hid (HE8.out.under HB9.out)
      have c0 : wc.cell? ⟨w.heap.size, 0, none⟩ = some (.int .i64 k) := nA.cell 0 rfl
      have c1 : wc.cell? ⟨w.heap.size, 1, none⟩ = some (.string t7) := nA.cell 1 rfl
      have c2 : wc.cell? ⟨w.heap.size, 2, none⟩ = some (.int .u64 (v7 : Nat)) := nA.cell 2 rfl
      have c3 : wc.cell? ⟨w.heap.size, 3, none⟩ = some (.slice ao ps7.length c) := nA.cell 3 rfl
      have d0 : wc.cell? ⟨gb, 0, none⟩ = some (.int .i64 k) := nB.cell 0 rfl
      have d1 : wc.cell? ⟨gb, 1, none⟩ = some (.string t7) := nB.cell 1 rfl
      have d2 : wc.cell? ⟨gb, 2, none⟩ = some (.int .u64 (v7 : Nat)) := nB.cell 2 rfl
      have d3 : wc.cell? ⟨gb, 3, none⟩ = some (.slice ao7 ps7.length c7) := nB.cell 3 rfl
      clear nA nB hr1 hr2 h1
      go_wp2_with fail
      refine HSA.out.mono ?_
      rintro e ws ⟨rfl, hbs⟩
      have HBS := Lib.hid (show Below wc.heap.size wc ws from hbs)
      have HXs : Hid (Below w.heap.size w ws) := Lib.hid (HXc.out.trans (HBS.out.mono HXc.out.size))
      clear hbs c0 c1 c2 c3 d0 d1 d2 d3
      go_wp2_with fail
      refine (close_end eb 0 ws (HE9.out.under HBS.out).1).mono ?_
      rintro e wk ⟨rfl, hk⟩
      rw [← hk]
      clear hk
      have HLV := Lib.hid (lives17 ws (HNT.out.below HXs.out))
      go_wp2_with fail
      refine HLV.out.mono ?_
      rintro e wl ⟨rfl, hbl⟩
      go_wp2
      go_ret
      exact ⟨rfl, HXs.out.trans (hbl.mono HXs.out.size)⟩
end Go.Proofs.YtgckgagnodkhjaaRRRRDoor
