/- The document's view of nodes that came in (bowerref19.View). Conditions: sizes that fit. -/
import Derived.Test.YtefmnfplipdnmaaFindViews
namespace Go.Proofs.Ytefmnfplipdnmaa
open Go.RowKit Go.Maps

theorem rlearn_says (w0 : World) (C : Nat) (xo : Option Addr) (xn xc : Nat) (L : List Kn) (kn : Kn) (ak av ac : Option Addr) (ck cv cc : Nat) (w : World) (hC : C ≤ w.heap.size) (h : KsR (PV w0) w C (.slice xo xn xc) L) (hn : xn ≤ 274877906942) (hP : PV w0 (.slice ak kn.n.ks.length ck) (.slice av kn.n.vs.length cv) (.slice ac kn.n.cs.length cc) kn) :
    Calls Try.prog 10 #[.agg #[.slice xo xn xc, .slice none 0 0, .int .i64 0, .int .i64 0], .agg #[.int .i64 kn.c, .int .u64 kn.wd, .int .u64 kn.vr, .int .i64 kn.n.lv, .string kn.n.lo, .string kn.n.hi, .bool kn.n.la, .int .i64 kn.n.nx, .slice ak kn.n.ks.length ck, .slice av kn.n.vs.length cv, .slice ac kn.n.cs.length cc]] w fun e w' => (∃ lo ln lc b, e = .returned (.tuple #[.agg #[.slice lo ln lc, .slice none 0 0, .int .i64 0, .int .i64 0], .bool b]) ∧ KsR (PV w0) w' C (.slice lo ln lc) (learnK L kn)) ∧ Below w.heap.size w w' := by
  cases hcell : cellB kn.c with
  | true =>
    refine (rlearn_yes xo xn xc none 0 0 0 0 L kn ak _ ck av _ cv ac _ cc w hcell h.ks hn hP).mono ?_
    rintro e w' ⟨⟨lo, ln, lc, rfl, hk⟩, hb⟩
    refine ⟨⟨lo, ln, lc, true, rfl, ?_⟩, hb⟩
    unfold learnK
    rw [if_pos hcell]
    exact hk.base hC
  | false =>
    refine (rlearn_no xo xn xc none 0 0 0 0 kn ak _ ck av _ cv ac _ cc w hcell).mono ?_
    rintro e w' ⟨rfl, hb⟩
    refine ⟨⟨xo, xn, xc, false, rfl, ?_⟩, hb⟩
    unfold learnK
    rw [if_neg (by rw [hcell]; simp)]
    exact h.keep hb

/-- Behind a learning, ahead of its being kept. -/
def VP (w0 wr wx : World) (C G : Nat) (lo : Option Addr) (ln lc : Nat) (L : List Kn) : Prop :=
  BX wx G 31 #[.slice lo ln lc, .slice none 0 0, .int .i64 0, .int .i64 0] ∧ KsR (PV w0) wx C (.slice lo ln lc) L ∧ Below wr.heap.size wr wx ∧ wr.heap.size ≤ G
theorem vp_new {w0 wr wa : World} {C : Nat} {lo : Option Addr} {ln lc : Nat} {L : List Kn} (hk : KsR (PV w0) wa C (.slice lo ln lc) L) (hb : Below wr.heap.size wr wa) : VP w0 wr (wa.alloc (.cells #[.slice lo ln lc, .slice none 0 0, .int .i64 0, .int .i64 0] 31)) C wa.heap.size lo ln lc L :=
  ⟨BX.new wa 31 _, hk.keep ((Below.refl _ _).alloc (Nat.le_refl _) _), hb.trans ((Below.refl _ _).alloc hb.size _), hb.size⟩
theorem vp_drew {w0 wr wa : World} {C G : Nat} {lo : Option Addr} {ln lc : Nat} {L : List Kn} (h : VP w0 wr wa C G lo ln lc L) : VP w0 wr wa.drew C G lo ln lc L :=
  ⟨h.1, h.2.1.keep (Below.refl _ _).drew, h.2.2.1.drew, h.2.2.2⟩
theorem vp_set {w0 wr wa : World} {C G : Nat} {lo : Option Addr} {ln lc : Nat} {L : List Kn} (hbx : BX wa G 31 #[.slice none 0 0, .slice none 0 0, .int .i64 0, .int .i64 0]) (hk : KsR (PV w0) wa C (.slice lo ln lc) L) (hb : Below wr.heap.size wr wa) (hG : wr.heap.size ≤ G) :
    VP w0 wr ((((wa.setCell ⟨G, 0, none⟩ (.slice lo ln lc)).setCell ⟨G, 1, none⟩ (.slice none 0 0)).setCell ⟨G, 2, none⟩ (.int .i64 0)).setCell ⟨G, 3, none⟩ (.int .i64 0)) C G lo ln lc L := by
  refine ⟨(((hbx.set 0 _).set 1 _).set 2 _).set 3 _, ?_, (((hb.setCell hG _).setCell hG _).setCell hG _).setCell hG _, hG⟩
  have ht : Turn (fun j => j = G) wa ((((wa.setCell ⟨G, 0, none⟩ (.slice lo ln lc)).setCell ⟨G, 1, none⟩ (.slice none 0 0)).setCell ⟨G, 2, none⟩ (.int .i64 0)).setCell ⟨G, 3, none⟩ (.int .i64 0)) := Turn.setCell (S := fun j => j = G) (Turn.setCell (S := fun j => j = G) (Turn.setCell (S := fun j => j = G) (Turn.setCell (S := fun j => j = G) (Turn.refl _ wa) (Or.inl rfl) _) (Or.inl rfl) _) (Or.inl rfl) _) (Or.inl rfl) _
  exact hk.moved ht (fun j cs e hg => by
    have e' : j = G := e
    subst e'
    exact bx_no hbx (by decide) cs hg)

set_option maxHeartbeats 4000000 in
set_option maxRecDepth 100000 in
theorem rview_says (w0 : World) (ao : Option Addr) (n c : Nat) (ks : List Kn) (w : World) (h : KsAt (PV w0) w (.slice ao n c) ks) (hn : n ≤ 1000000) :
    Calls Try.prog 35 #[.slice ao n c] w fun e w' => (∃ lo ln lc, e = .returned (.agg #[.slice lo ln lc, .slice none 0 0, .int .i64 0, .int .i64 0]) ∧ KsR (PV w0) w' w.heap.size (.slice lo ln lc) (learnAll ks)) ∧ Below w.heap.size w w' := by
  obtain ⟨W1, hW1, b1, b2, hx⟩ := bx2 w 31 31 #[.slice none 0 0, .slice none 0 0, .int .i64 0, .int .i64 0] #[.slice none 0 0, .slice none 0 0, .int .i64 0, .int .i64 0]
  obtain ⟨g1, hg1⟩ : ∃ g, g = w.heap.size + 1 := ⟨_, rfl⟩
  rw [← hg1] at b2
  have hsz : W1.heap.size = w.heap.size + 2 := by rw [hW1, World.size_alloc, World.size_alloc]
  have HG := Lib.hid (show g1 = w.heap.size + 1 ∧ W1.heap.size = w.heap.size + 2 from ⟨hg1, hsz⟩)
  have hne : w.heap.size ≠ g1 := by omega
  have hne' : g1 ≠ w.heap.size := by omega
  have HX := Lib.hid hx
  have HB1 := Lib.hid b1
  have HB2 := Lib.hid b2
  have HW := Lib.hid hW1
  have hl := h.len
  have HL := Lib.hid hl.1
  have hl2 := hl.2
  have HK := Lib.hid (h.keep hx)
  have HKW := Lib.hid h
  clear hx b1 b2 hW1 hsz hg1 h hl
  go_enter Try.func35, Try.ntmps35
  go_upto_region 2 with fail
  rw [← HW.out, ← HG.out.1]
  clear HW
  go_wp2
  go_loopw [4] (fun s wr => ∃ (i : Nat) (xo : Option Addr) (xn xc : Nat), s = .int .i64 i ∧ i ≤ n ∧ xn ≤ i ∧ Hid (BX wr g1 31 #[.slice xo xn xc, .slice none 0 0, .int .i64 0, .int .i64 0] ∧ KsR (PV w0) wr W1.heap.size (.slice xo xn xc) (learnAll (ks.take i)) ∧ BX wr w.heap.size 31 #[.slice none 0 0, .slice none 0 0, .int .i64 0, .int .i64 0] ∧ Below w.heap.size W1 wr ∧ KsAt (PV w0) wr (.slice ao n c) ks ∧ W1.heap.size ≤ wr.heap.size)) (fun s _ => n - (intOf s).toNat)
  case atStart => exact ⟨0, none, 0, 0, rfl, Nat.zero_le _, Nat.le_refl _, Lib.hid ⟨HB2.out, KsR.nil _ _ _, HB1.out, Below.refl _ _, HK.out, Nat.le_refl _⟩⟩
  case round =>
    obtain ⟨i, xo, xn, xc, rfl, hi, hxn, HV⟩ := hrel
    by_cases hlt : i < n
    · obtain ⟨g, o, ak, nk, ck, av, nv, cv, ac, nc, cc, rfl, hP, hc⟩ := HV.out.2.2.2.2.1.get hlt
      have hil : i < ks.length := by have := HL.out; omega
      have hmore := learn_more hil
      obtain ⟨kn, hkn⟩ : ∃ kn, kn = kAt ks i := ⟨_, rfl⟩
      rw [← hkn] at hc hP hmore
      obtain ⟨rfl, rfl, rfl, hnd⟩ := hP.nd
      have HC : Hid (∀ V, Below wr.heap.size wr V → V.cell? ⟨g1, 0, none⟩ = some (.slice xo xn xc) ∧ V.cell? ⟨g1, 1, none⟩ = some (.slice none 0 0) ∧ V.cell? ⟨g1, 2, none⟩ = some (.int .i64 0) ∧ V.cell? ⟨g1, 3, none⟩ = some (.int .i64 0) ∧ V.cell? ⟨g, o + i * 11, none⟩ = some (.int .i64 kn.c) ∧ V.cell? ⟨g, o + i * 11 + 1, none⟩ = some (.int .u64 kn.wd) ∧ V.cell? ⟨g, o + i * 11 + 2, none⟩ = some (.int .u64 kn.vr) ∧ V.cell? ⟨g, o + i * 11 + 3, none⟩ = some (.int .i64 kn.n.lv) ∧ V.cell? ⟨g, o + i * 11 + 4, none⟩ = some (.string kn.n.lo) ∧ V.cell? ⟨g, o + i * 11 + 5, none⟩ = some (.string kn.n.hi) ∧ V.cell? ⟨g, o + i * 11 + 6, none⟩ = some (.bool kn.n.la) ∧ V.cell? ⟨g, o + i * 11 + 7, none⟩ = some (.int .i64 kn.n.nx) ∧ V.cell? ⟨g, o + i * 11 + 8, none⟩ = some (.slice ak kn.n.ks.length ck) ∧ V.cell? ⟨g, o + i * 11 + 9, none⟩ = some (.slice av kn.n.vs.length cv) ∧ V.cell? ⟨g, o + i * 11 + 10, none⟩ = some (.slice ac kn.n.cs.length cc)) := Lib.hid (fun V hV => by
        have hb := HV.out.1.below hV
        obtain ⟨q0, q1, q2, q3, q4, q5, q6, q7, q8, q9, q10⟩ := hc V hV
        exact ⟨hb.cell 0 rfl, hb.cell 1 rfl, hb.cell 2 rfl, hb.cell 3 rfl, q0, q1, q2, q3, q4, q5, q6, q7, q8, q9, q10⟩)
      have HLR := Lib.hid (fun W (hb : Below wr.heap.size wr W) => rlearn_says w0 W1.heap.size xo xn xc (learnAll (ks.take i)) kn ak av ac ck cv cc W (Nat.le_trans HV.out.2.2.2.2.2 hb.size) (HV.out.2.1.keep hb) (by omega) hP)
      obtain ⟨L2, hL2⟩ : ∃ L2, L2 = learnK (learnAll (ks.take i)) kn := ⟨_, rfl⟩
      rw [← hL2] at HLR hmore
      have HM := Lib.hid hmore
      have hS0 := HC.out wr.drew (Below.refl _ _).drew
      have hlt' : (i : Int) < n := by omega
      clear hc hP hmore hkn hnd hL2
      go_wp2
      go_cut [5, 6] from 14 to 22 (fun s5 s6 wx => ∃ G b lo ln lc, s5 = .pointer (some ⟨G, 0, none⟩) ∧ s6 = .bool b ∧ Hid (VP w0 wr wx W1.heap.size G lo ln lc L2))
      case first =>
        go_region_held_law (fun V => V.cell? ⟨g1, 0, none⟩ = some (.slice xo xn xc) ∧ V.cell? ⟨g1, 1, none⟩ = some (.slice none 0 0) ∧ V.cell? ⟨g1, 2, none⟩ = some (.int .i64 0) ∧ V.cell? ⟨g1, 3, none⟩ = some (.int .i64 0) ∧ V.cell? ⟨g, o + i * 11, none⟩ = some (.int .i64 kn.c) ∧ V.cell? ⟨g, o + i * 11 + 1, none⟩ = some (.int .u64 kn.wd) ∧ V.cell? ⟨g, o + i * 11 + 2, none⟩ = some (.int .u64 kn.vr) ∧ V.cell? ⟨g, o + i * 11 + 3, none⟩ = some (.int .i64 kn.n.lv) ∧ V.cell? ⟨g, o + i * 11 + 4, none⟩ = some (.string kn.n.lo) ∧ V.cell? ⟨g, o + i * 11 + 5, none⟩ = some (.string kn.n.hi) ∧ V.cell? ⟨g, o + i * 11 + 6, none⟩ = some (.bool kn.n.la) ∧ V.cell? ⟨g, o + i * 11 + 7, none⟩ = some (.int .i64 kn.n.nx) ∧ V.cell? ⟨g, o + i * 11 + 8, none⟩ = some (.slice ak kn.n.ks.length ck) ∧ V.cell? ⟨g, o + i * 11 + 9, none⟩ = some (.slice av kn.n.vs.length cv) ∧ V.cell? ⟨g, o + i * 11 + 10, none⟩ = some (.slice ac kn.n.cs.length cc))
          (first | (with_reducible exact hS0) | (refine HC.out _ ?_; repeat' (first | (with_reducible exact HBA.out) | (with_reducible exact Below.refl _ _) | (with_reducible refine Below.setCell ?_ ?_ _) | (with_reducible refine Below.drew ?_) | (with_reducible refine Below.alloc ?_ ?_ _) | exact Nat.le_refl _ | exact HBA.out.size)))
          (first | (go_at_call 10; refine (HLR.out _ (by first | exact (Below.refl _ _).drew | exact (Below.refl wr.heap.size wr).drew.alloc (Nat.le_refl _) _ | exact ((Below.refl wr.heap.size wr).alloc (Nat.le_refl _) _).drew)).mono ?_; rintro e wa ⟨⟨lo, ln, lc, bb, rfl, hk⟩, hb⟩; (first | (have HPB : Hid (BX wa wr.heap.size 31 #[.slice none 0 0, .slice none 0 0, .int .i64 0, .int .i64 0]) := Lib.hid ((BX.new wr.drew 31 #[.slice none 0 0, .slice none 0 0, .int .i64 0, .int .i64 0]).below hb); have k0 := HPB.out.cell 0 rfl; have k1 := HPB.out.cell 1 rfl; have k2 := HPB.out.cell 2 rfl; have k3 := HPB.out.cell 3 rfl; have y0 := HPB.out.frozen 0; have y1 := HPB.out.frozen 1; have y2 := HPB.out.frozen 2; have y3 := HPB.out.frozen 3) | (have HPB : Hid (BX wa wr.heap.size 31 #[.slice none 0 0, .slice none 0 0, .int .i64 0, .int .i64 0]) := Lib.hid ((BX.new wr 31 #[.slice none 0 0, .slice none 0 0, .int .i64 0, .int .i64 0]).drew.below hb); have k0 := HPB.out.cell 0 rfl; have k1 := HPB.out.cell 1 rfl; have k2 := HPB.out.cell 2 rfl; have k3 := HPB.out.cell 3 rfl; have y0 := HPB.out.frozen 0; have y1 := HPB.out.frozen 1; have y2 := HPB.out.frozen 2; have y3 := HPB.out.frozen 3) | skip); have HKA := Lib.hid hk; (first | (have HBA : Hid (Below wr.heap.size wr wa) := Lib.hid ((Below.refl wr.heap.size wr).drew.trans (hb.mono (Nat.le_refl _)))) | (have HBA : Hid (Below wr.heap.size wr wa) := Lib.hid (((Below.refl wr.heap.size wr).drew.alloc (Nat.le_refl _) (.cells #[.slice none 0 0, .slice none 0 0, .int .i64 0, .int .i64 0] 31)).trans (hb.mono (by show wr.heap.size ≤ (wr.drew.alloc _).heap.size; rw [World.size_alloc]; exact Nat.le_succ _)))) | (have HBA : Hid (Below wr.heap.size wr wa) := Lib.hid ((((Below.refl wr.heap.size wr).alloc (Nat.le_refl _) (.cells #[.slice none 0 0, .slice none 0 0, .int .i64 0, .int .i64 0] 31)).drew).trans (hb.mono (by show wr.heap.size ≤ (wr.alloc _).heap.size; rw [World.size_alloc]; exact Nat.le_succ _))))); clear hk hb))
        all_goals first | go_meet | (go_step; go_meet) | (go_wp2_with fail; go_meet)
        all_goals refine ⟨_, _, lo, ln, lc, rfl, rfl, Lib.hid ?_⟩
        all_goals first | exact vp_set HPB.out HKA.out HBA.out (Nat.le_refl _) | exact vp_new HKA.out HBA.out | exact vp_drew (vp_new HKA.out HBA.out)
      case rest =>
        obtain ⟨G, b, lo, ln, lc, rfl, rfl, HP⟩ := hcut
        have hbw := HP.out.2.2.1
        have b1 := HV.out.1.below hbw
        have b0 := HV.out.2.2.1.below hbw
        have nG := HP.out.1
        have hGe := HP.out.2.2.2
        have hGg : G ≠ g1 := by have := lt_of_block HV.out.1; omega
        have hgG : g1 ≠ G := fun e => hGg e.symm
        have hk2 := HP.out.2.1
        have hln : ln ≤ i + 1 := by
          have h1 := hk2.ks.len.1
          have h2 := learnAll_len (ks.take (i + 1))
          rw [HM.out, List.length_take] at h2
          omega
        have u0 := nG.cell 0 rfl
        have u1 := nG.cell 1 rfl
        have u2 := nG.cell 2 rfl
        have u3 := nG.cell 3 rfl
        have a0 := b1.cell 0 rfl
        have a1 := b1.cell 1 rfl
        have a2 := b1.cell 2 rfl
        have a3 := b1.cell 3 rfl
        have y0 := b1.frozen 0
        have y1 := b1.frozen 1
        have y2 := b1.frozen 2
        have y3 := b1.frozen 3
        have ht : Turn (fun j => j = g1) wc ((((wc.setCell ⟨g1, 0, none⟩ (.slice lo ln lc)).setCell ⟨g1, 1, none⟩ (.slice none 0 0)).setCell ⟨g1, 2, none⟩ (.int .i64 0)).setCell ⟨g1, 3, none⟩ (.int .i64 0)) := Turn.setCell (S := fun j => j = g1) (Turn.setCell (S := fun j => j = g1) (Turn.setCell (S := fun j => j = g1) (Turn.setCell (S := fun j => j = g1) (Turn.refl _ wc) (Or.inl rfl) _) (Or.inl rfl) _) (Or.inl rfl) _) (Or.inl rfl) _
        have hbs : Below w.heap.size W1 ((((wc.setCell ⟨g1, 0, none⟩ (.slice lo ln lc)).setCell ⟨g1, 1, none⟩ (.slice none 0 0)).setCell ⟨g1, 2, none⟩ (.int .i64 0)).setCell ⟨g1, 3, none⟩ (.int .i64 0)) := (HV.out.2.2.2.1.trans (hbw.mono (by have := HG.out; have := HV.out.2.2.2.2.2; omega))).trans (ht.below (fun j e => by rw [show j = g1 from e]; have := HG.out; omega) (by have := HG.out; have := HV.out.2.2.2.2.2; have := hbw.size; omega))
        have HNEW : Hid (BX ((((wc.setCell ⟨g1, 0, none⟩ (.slice lo ln lc)).setCell ⟨g1, 1, none⟩ (.slice none 0 0)).setCell ⟨g1, 2, none⟩ (.int .i64 0)).setCell ⟨g1, 3, none⟩ (.int .i64 0)) g1 31 #[.slice lo ln lc, .slice none 0 0, .int .i64 0, .int .i64 0] ∧ KsR (PV w0) ((((wc.setCell ⟨g1, 0, none⟩ (.slice lo ln lc)).setCell ⟨g1, 1, none⟩ (.slice none 0 0)).setCell ⟨g1, 2, none⟩ (.int .i64 0)).setCell ⟨g1, 3, none⟩ (.int .i64 0)) W1.heap.size (.slice lo ln lc) (learnAll (ks.take (i + 1))) ∧ BX ((((wc.setCell ⟨g1, 0, none⟩ (.slice lo ln lc)).setCell ⟨g1, 1, none⟩ (.slice none 0 0)).setCell ⟨g1, 2, none⟩ (.int .i64 0)).setCell ⟨g1, 3, none⟩ (.int .i64 0)) w.heap.size 31 #[.slice none 0 0, .slice none 0 0, .int .i64 0, .int .i64 0] ∧ Below w.heap.size W1 ((((wc.setCell ⟨g1, 0, none⟩ (.slice lo ln lc)).setCell ⟨g1, 1, none⟩ (.slice none 0 0)).setCell ⟨g1, 2, none⟩ (.int .i64 0)).setCell ⟨g1, 3, none⟩ (.int .i64 0)) ∧ KsAt (PV w0) ((((wc.setCell ⟨g1, 0, none⟩ (.slice lo ln lc)).setCell ⟨g1, 1, none⟩ (.slice none 0 0)).setCell ⟨g1, 2, none⟩ (.int .i64 0)).setCell ⟨g1, 3, none⟩ (.int .i64 0)) (.slice (some ⟨g, o, none⟩) n c) ks ∧ W1.heap.size ≤ ((((wc.setCell ⟨g1, 0, none⟩ (.slice lo ln lc)).setCell ⟨g1, 1, none⟩ (.slice none 0 0)).setCell ⟨g1, 2, none⟩ (.int .i64 0)).setCell ⟨g1, 3, none⟩ (.int .i64 0)).heap.size) := Lib.hid (by
          refine ⟨(((b1.set 0 _).set 1 _).set 2 _).set 3 _, by rw [HM.out]; exact hk2.moved ht (fun j cs e hg => by
            have e' : j = g1 := e
            subst e'
            exact bx_no b1 (by decide) cs hg), (((b0.far (p := ⟨g1, 0, none⟩) hne _).far (p := ⟨g1, 1, none⟩) hne _).far (p := ⟨g1, 2, none⟩) hne _).far (p := ⟨g1, 3, none⟩) hne _, hbs, ?_, Nat.le_trans HV.out.2.2.2.2.2 (Nat.le_trans hbw.size ht.size)⟩
          exact HKW.out.keep (HX.out.trans hbs))
        clear nG hGe hk2 b1 b0 hbw ht hbs HC hS0 HLR
        go_wp2
        go_roundw
        case rel => exact ⟨i + 1, lo, ln, lc, by go_num, by omega, by omega, HNEW⟩
        case measure => simp [intOf]; omega
    · obtain rfl : i = n := by omega
      have HA := Lib.hid (show ks.take i = ks by rw [HL.out]; exact List.take_length)
      have a0 := HV.out.1.cell 0 rfl
      have a1 := HV.out.1.cell 1 rfl
      have a2 := HV.out.1.cell 2 rfl
      have a3 := HV.out.1.cell 3 rfl
      have r0 := HV.out.2.2.1.cell 0 rfl
      have r1 := HV.out.2.2.1.cell 1 rfl
      have r2 := HV.out.2.2.1.cell 2 rfl
      have r3 := HV.out.2.2.1.cell 3 rfl
      have y0 := HV.out.2.2.1.frozen 0
      have y1 := HV.out.2.2.1.frozen 1
      have y2 := HV.out.2.2.1.frozen 2
      have y3 := HV.out.2.2.1.frozen 3
      go_wp2
      refine bodyPost_ret (v := .agg #[.slice xo xn xc, .slice none 0 0, .int .i64 0, .int .i64 0]) (by simp [results, Try.results35, go_sem, *]) rfl ?_
      have hbv := HX.out.trans HV.out.2.2.2.1
      refine ⟨⟨xo, xn, xc, rfl, ?_⟩, ?_⟩
      · have h1 := (HV.out.2.1.base (C := w.heap.size) HX.out.size)
        rw [HA.out] at h1
        have ht : ∀ (l : List (Nat × Value)) (W : World), KsR (PV w0) W w.heap.size (.slice xo xn xc) (learnAll ks) → (∃ cs, BX W w.heap.size 31 cs) → KsR (PV w0) (wr11 W w.heap.size l) w.heap.size (.slice xo xn xc) (learnAll ks) := by
          intro l
          induction l with
          | nil => intro W h _; exact h
          | cons q l ih =>
            rintro W h ⟨cs, hb⟩
            exact ih _ (h.moved (S := fun j => j = w.heap.size) (Turn.setCell (S := fun j => j = w.heap.size) (Turn.refl _ W) (Or.inl rfl) q.2) (fun j cs' e hg => by
              have e' : j = w.heap.size := e
              subst e'
              exact bx_no hb (by decide) cs' hg)) ⟨_, hb.set q.1 q.2⟩
        exact ht [(0, _), (1, _), (2, _), (3, _)] wr h1 ⟨_, HV.out.2.2.1⟩
      · repeat' (first | (with_reducible exact hbv) | (with_reducible refine Below.setCell ?_ ?_ _) | exact Nat.le_refl _)
end Go.Proofs.Ytefmnfplipdnmaa
