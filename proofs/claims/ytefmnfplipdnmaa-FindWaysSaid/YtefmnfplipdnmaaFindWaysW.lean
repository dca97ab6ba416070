/- The law FindWays, walked. Conditions: the nodes' rows are there; their numbers are numbers. -/
import Derived.Test.YtefmnfplipdnmaaRView
import Derived.Test.YtefmnfplipdnmaaFindLives
import Derived.Test.YtefmnfplipdnmaaNodeRSame
import Derived.Test.YtefmnfplipdnmaaLater
import Derived.Deep.DeepCutAuto
namespace Go.Proofs.Ytefmnfplipdnmaa
open Go.RowKit Go.Maps

/-- The numbers of nodes are numbers. -/
def NumOk (ks : List Kn) : Prop := ∀ kn ∈ ks, (Lit.int .i64 kn.n.nx).wf = true ∧ ∀ j, j < kn.n.cs.length → (Lit.int .i64 (ni kn.n.cs j)).wf = true
theorem nodOk_of {ks : List Kn} (h : NumOk ks) (hl : LightK ks) : ∀ kn ∈ ks, NodOk kn.n := fun kn hm => by
  have h1 := hl.1 kn hm
  obtain ⟨h2, h3⟩ := h kn hm
  refine ⟨by have := h1.b; omega, by have := h1.b; omega, fun x hx => ?_, by have := h1.n; omega, by have := h1.n; omega, by have := h1.n; omega, h2, h3⟩
  obtain ⟨i, hi, rfl⟩ := List.mem_iff_getElem.1 hx
  have := h1.k i hi
  rw [nth_eq hi] at this
  omega
/-- Two rows that are the same way, or none. -/
def Both (w0 w : World) (B : Nat) (ao : Option Addr) (n c : Nat) (oo : Option Addr) (oc : Nat) : Prop := 0 < n → ∃ l, KsAt (PO w B) w (.slice ao n c) l ∧ KsAt (PV w0) w (.slice oo n oc) l
theorem Both.keep {w0 w w' : World} {B : Nat} {ao : Option Addr} {n c : Nat} {oo : Option Addr} {oc : Nat} (h : Both w0 w B ao n c oo oc) (hb : Below w.heap.size w w') : Both w0 w' B ao n c oo oc := fun hp => by
  obtain ⟨l, h1, h2⟩ := h hp
  refine ⟨l, ?_, h2.keep hb⟩
  obtain ⟨a, b, e, q1, q2, q3⟩ := h1.keep hb
  refine ⟨a, b, e, q1, q2, fun hq => ?_⟩
  obtain ⟨g, o, e2, hc⟩ := q3 hq
  refine ⟨g, o, e2, fun j hj => ?_⟩
  obtain ⟨l2, hl, hcc⟩ := hc j hj
  exact ⟨l2, hl.mono (fun _ _ _ hp => hp.keep hb), hcc⟩
/-- What the document's way told, of a view that lacked nothing. -/
def WM (w0 : World) (kind : Nat) (k : ByteArray) (ks : List Kn) (M : Nat) (W : World) (C : Nat) (oo : Option Addr) (on oc : Nat) (is : Bool) (k2 m2 : Int) : Prop :=
  match runW kind k ks M ⟨0, -1, []⟩ with
  | .done l => is = true ∧ k2 = 0 ∧ m2 = 0 ∧ KsR (PV w0) W C (.slice oo on oc) l
  | .miss cell => is = false ∧ on = 0 ∧ k2 = lackK 0 (cellB cell) 1 ∧ m2 = lackM 0 0 (cellB cell) cell
  | .lost => is = false ∧ on = 0 ∧ k2 = lackK 0 false 0 ∧ m2 = lackM 0 0 false 0
theorem WM.map {w0 : World} {kind : Nat} {k : ByteArray} {ks : List Kn} {M : Nat} {W W' : World} {C C' : Nat} {oo : Option Addr} {on oc : Nat} {is : Bool} {k2 m2 : Int} (h : WM w0 kind k ks M W C oo on oc is k2 m2) (hf : ∀ l, KsR (PV w0) W C (.slice oo on oc) l → KsR (PV w0) W' C' (.slice oo on oc) l) : WM w0 kind k ks M W' C' oo on oc is k2 m2 := by
  unfold WM at h ⊢
  revert h
  cases runW kind k ks M ⟨0, -1, []⟩ with
  | done l => rintro ⟨h1, h2, h3, h4⟩; exact ⟨h1, h2, h3, hf l h4⟩
  | miss c => exact fun h => h
  | lost => exact fun h => h
/-- What both ways tell is the same. -/
theorem ways_same {w0 w W : World} {kind : Nat} {k : ByteArray} {ks : List Kn} {M B0 B C : Nat} {ao : Option Addr} {n c : Nat} {ok : Bool} {k1 m1 : Int} {oo : Option Addr} {on oc : Nat} {is : Bool} {k2 m2 : Int}
    (h : Ends kind k ks M B0 B 0 0 w (.slice ao n c) ok k1 m1) (hb : Below w.heap.size w W) (h2 : WM w0 kind k ks M W C oo on oc is k2 m2) :
    ok = is ∧ on = n ∧ k1 = k2 ∧ m1 = m2 ∧ Both w0 W B ao n c oo oc := by
  unfold Ends at h
  unfold WM at h2
  revert h h2
  cases runW kind k ks M ⟨0, -1, []⟩ with
  | done l =>
    rintro ⟨rfl, rfl, rfl, h3⟩ ⟨rfl, rfl, rfl, h4⟩
    have e : on = n := h4.ks.len.1.trans h3.ks.len.1.symm
    subst e
    exact ⟨rfl, rfl, rfl, rfl, fun _ => ⟨_, (h3.later hb).ks, h4.ks⟩⟩
  | miss cell =>
    rintro ⟨rfl, hv, rfl, rfl⟩ ⟨rfl, rfl, rfl, rfl⟩
    injection hv with _ e _
    subst e
    exact ⟨rfl, rfl, rfl, rfl, fun h => absurd h (Nat.lt_irrefl _)⟩
  | lost =>
    rintro ⟨rfl, hv, rfl, rfl⟩ ⟨rfl, rfl, rfl, rfl⟩
    injection hv with _ e _
    subst e
    exact ⟨rfl, rfl, rfl, rfl, fun h => absurd h (Nat.lt_irrefl _)⟩
/-- Behind the document's way, ahead of its being compared. -/
def VW (w0 wq wx : World) (kind : Nat) (k : ByteArray) (ks : List Kn) (M G : Nat) (lo : Option Addr) (ln lc : Nat) (oo : Option Addr) (on oc : Nat) (is : Bool) (k9 m9 : Int) : Prop :=
  BX wx G 31 #[.slice lo ln lc, .slice none 0 0, .int .i64 k9, .int .i64 m9] ∧ Below wq.heap.size wq wx ∧ wq.heap.size ≤ G ∧ WM w0 kind k ks M wx wq.heap.size oo on oc is k9 m9
section
variable {w0 wq wb : World} {kind : Nat} {k : ByteArray} {ks : List Kn} {M G : Nat} {lo : Option Addr} {ln lc : Nat} {oo : Option Addr} {on oc : Nat} {is : Bool} {k9 m9 : Int}
theorem vw_new (hm : WM w0 kind k ks M wb wq.heap.size oo on oc is k9 m9) (hb : Below wq.heap.size wq wb) : VW w0 wq (wb.alloc (.cells #[.slice lo ln lc, .slice none 0 0, .int .i64 k9, .int .i64 m9] 31)) kind k ks M wb.heap.size lo ln lc oo on oc is k9 m9 :=
  ⟨BX.new wb 31 _, hb.trans ((Below.refl _ _).alloc hb.size _), hb.size, hm.map (fun _ h => h.keep ((Below.refl _ _).alloc (Nat.le_refl _) _))⟩
theorem vw_set (hbx : BX wb G 31 #[.slice none 0 0, .slice none 0 0, .int .i64 0, .int .i64 0]) (hm : WM w0 kind k ks M wb wq.heap.size oo on oc is k9 m9) (hb : Below wq.heap.size wq wb) (hG : wq.heap.size ≤ G) :
    VW w0 wq ((((wb.setCell ⟨G, 0, none⟩ (.slice lo ln lc)).setCell ⟨G, 1, none⟩ (.slice none 0 0)).setCell ⟨G, 2, none⟩ (.int .i64 k9)).setCell ⟨G, 3, none⟩ (.int .i64 m9)) kind k ks M G lo ln lc oo on oc is k9 m9 := by
  refine ⟨(((hbx.set 0 _).set 1 _).set 2 _).set 3 _, (((hb.setCell hG _).setCell hG _).setCell hG _).setCell hG _, hG, hm.map (fun l hk => ?_)⟩
  have ht : Turn (fun j => j = G) wb ((((wb.setCell ⟨G, 0, none⟩ (.slice lo ln lc)).setCell ⟨G, 1, none⟩ (.slice none 0 0)).setCell ⟨G, 2, none⟩ (.int .i64 k9)).setCell ⟨G, 3, none⟩ (.int .i64 m9)) := Turn.setCell (S := fun j => j = G) (Turn.setCell (S := fun j => j = G) (Turn.setCell (S := fun j => j = G) (Turn.setCell (S := fun j => j = G) (Turn.refl _ wb) (Or.inl rfl) _) (Or.inl rfl) _) (Or.inl rfl) _) (Or.inl rfl) _
  exact hk.moved ht (fun j cs e hg => by
    have e' : j = G := e
    subst e'
    exact bx_no hbx (by decide) cs hg)
end

set_option maxHeartbeats 8000000 in
set_option maxRecDepth 100000 in
theorem findWays_any (ao : Option Addr) (n c : Nat) (ks : List Kn) (kind most : Int) (k : ByteArray) (w : World) (h : KsAt (PV w) w (.slice ao n c) ks) (hnum : NumOk ks) :
    Calls Try.prog 5 #[.slice ao n c, .agg #[.int .i64 kind, .string k], .int .i64 most] w fun e w' => e = .returned (.bool true) ∧ Below w.heap.size w w' := by
  have hx := boxed_below w (.cells #[.int .i64 kind, .string k] 75)
  have n1 := BX.new w 75 #[.int .i64 kind, .string k]
  obtain ⟨W1, hW1⟩ : ∃ W, W = w.alloc (.cells #[.int .i64 kind, .string k] 75) := ⟨_, rfl⟩
  rw [← hW1] at hx n1
  have HX := Lib.hid hx
  have HN := Lib.hid n1
  have HW := Lib.hid hW1
  have HK := Lib.hid (h.keep hx)
  have HKW := Lib.hid h
  have HL := Lib.hid (light15_any w ao n c ks W1 hx (h.keep hx))
  have HLV := Lib.hid (fun W => lives19_any W)
  have HNUM := Lib.hid hnum
  have HLEN := Lib.hid h.len
  have c0 := n1.cell 0 rfl
  have c1 := n1.cell 1 rfl
  clear hx n1 hW1 h hnum
  go_enter Try.func5, Try.ntmps5
  go_upto_region 1 with fail
  rw [← HW.out]
  clear HW
  by_cases hk100 : (k.size : Int) > 100
  · go_wp2_with fail
    refine HL.out.mono ?_
    rintro e w2 ⟨r, rfl, hr, hb2⟩
    have HX2 := Lib.hid (HX.out.trans (hb2.mono HX.out.size))
    have d1 := (HN.out.below hb2).cell 1 rfl
    clear hb2 hr c0 c1
    cases r <;>
    (go_wp2_with fail
     refine (HLV.out _).mono ?_
     rintro e w9 ⟨rfl, hb9⟩
     have HX9 := Lib.hid (HX2.out.trans (hb9.mono HX2.out.size))
     clear hb9
     go_wp2
     go_ret
     exact ⟨rfl, HX9.out⟩)
  · by_cases hm100 : most > 100
    · go_wp2_with fail
      refine HL.out.mono ?_
      rintro e w2 ⟨r, rfl, hr, hb2⟩
      have HX2 := Lib.hid (HX.out.trans (hb2.mono HX.out.size))
      have d1 := (HN.out.below hb2).cell 1 rfl
      clear hb2 hr c0 c1
      cases r <;>
      (go_wp2_with fail
       refine (HLV.out _).mono ?_
       rintro e w9 ⟨rfl, hb9⟩
       have HX9 := Lib.hid (HX2.out.trans (hb9.mono HX2.out.size))
       clear hb9
       go_wp2
       go_ret
       exact ⟨rfl, HX9.out⟩)
    · have HKS := Lib.hid (show k.size ≤ 140737488355328 by omega)
      have HM := Lib.hid (show most < 8192 by omega)
      go_wp2_with fail
      refine HL.out.mono ?_
      rintro e w2 ⟨r, rfl, hr, hb2⟩
      have HX2 := Lib.hid (HX.out.trans (hb2.mono HX.out.size))
      have hn2 := HN.out.below hb2
      have HN2 := Lib.hid hn2
      have HK2 := Lib.hid (HK.out.keep hb2)
      have d0 := hn2.cell 0 rfl
      have d1 := hn2.cell 1 rfl
      have HR := Lib.hid hr
      clear hb2 hr c0 c1 hn2 HK HN HX HL
      cases r with
      | false =>
        go_wp2_with fail
        refine (HLV.out _).mono ?_
        rintro e w9 ⟨rfl, hb9⟩
        have HX9 := Lib.hid (HX2.out.trans (hb9.mono HX2.out.size))
        clear hb9
        go_wp2
        go_ret
        exact ⟨rfl, HX9.out⟩
      | true =>
        have HLK := Lib.hid (HR.out.1 rfl)
        have HOK := Lib.hid (nodOk_of HNUM.out HLK.out)
        have hn40 : n ≤ 40 := by rw [HLEN.out.1]; exact HLK.out.2
        have HOKA := Lib.hid (show ∀ kn ∈ learnAll ks, NodOk kn.n from fun kn hm => HOK.out kn (learnAll_mem hm))
        have HV := Lib.hid (view_says w ao n c ks w2 HX2.out HK2.out HOK.out (by omega))
        go_wp2_with fail
        refine HV.out.mono ?_
        rintro e w3 ⟨A, b, N, rfl, hf3, hb3⟩
        have HF3 := Lib.hid hf3
        have HX3 := Lib.hid (HX2.out.trans (hb3.mono HX2.out.size))
        have hn3 := HN2.out.below hb3
        have HN3 := Lib.hid hn3
        have HK3 := Lib.hid (HK2.out.keep hb3)
        have HBS := Lib.hid (show ∀ g, VS A b (.slice none 0 0) g → w2.heap.size ≤ g from hf3.base)
        have HS23 := Lib.hid (show w2.heap.size ≤ w3.heap.size from hb3.size)
        clear hb3 hf3 d0 d1 HV HK2
        have d0 := hn3.cell 0 rfl
        have d1 := hn3.cell 1 rfl
        clear hn3
        have HWY := Lib.hid (way_says kind most k w3 HF3.out HOKA.out HM.out HKS.out)
        go_wp2_with fail
        refine HWY.out.mono ?_
        rintro e w4 ⟨xo, xn, xc, ok, k4, m4, rfl, hf4, ht4, he4⟩
        have HF4 := Lib.hid hf4
        have HE4 := Lib.hid he4
        have hb4 : Below w2.heap.size w3 w4 := ht4.below HBS.out HS23.out
        have HX4 := Lib.hid (HX3.out.trans (hb4.mono HX2.out.size))
        have hn4 : BX w4 w.heap.size 75 #[.int .i64 kind, .string k] := (hb4.block _ (lt_of_block HN2.out)).trans HN3.out
        have HN4 := Lib.hid hn4
        have HK4 := Lib.hid (HKW.out.keep HX4.out)
        clear hf4 ht4 he4 hb4 d0 d1 HWY HF3 HK3
        have d0 := hn4.cell 0 rfl
        have d1 := hn4.cell 1 rfl
        clear hn4
        have HSD := Lib.hid (sound19_any w ao n c ks w4 HX4.out HK4.out HOK.out)
        go_wp2_with fail
        refine HSD.out.mono ?_
        rintro e w5 ⟨r, rfl, hr, hb5⟩
        have HX5 := Lib.hid (HX4.out.trans (hb5.mono HX4.out.size))
        have hn5 := HN4.out.below hb5
        have HN5 := Lib.hid hn5
        have HF5 := Lib.hid (HF4.out.keep hb5)
        have HK5 := Lib.hid (HK4.out.keep hb5)
        have HB5 := Lib.hid hb5
        have HR5 := Lib.hid hr
        clear hb5 hr d0 d1 HSD HN4 HF4 HK4
        have d0 := hn5.cell 0 rfl
        have d1 := hn5.cell 1 rfl
        clear hn5
        cases r with
        | false =>
          go_wp2_with fail
          refine (HLV.out _).mono ?_
          rintro e w9 ⟨rfl, hb9⟩
          have HX9 := Lib.hid (HX5.out.trans (hb9.mono HX5.out.size))
          clear hb9
          go_wp2
          go_ret
          exact ⟨rfl, HX9.out⟩
        | true =>
          have HS := Lib.hid (HR5.out.1 rfl)
          have HSA := Lib.hid (show AllS (learnAll ks) from fun kn hm => HS.out kn (learnAll_mem hm))
          have HRV := Lib.hid (fun W (hb : Below w5.heap.size w5 W) => rview_says w ao n c ks W (HK5.out.keep hb) (by omega))
          have HRW := Lib.hid (fun lo ln lc W (hb : Below w5.heap.size w5 W) (hk : KsAt (PV w) W (.slice lo ln lc) (learnAll ks)) => rway_any w lo ln lc none 0 0 0 0 most kind k (learnAll ks) W (HX5.out.trans (hb.mono HX5.out.size)) hk HSA.out HOKA.out HM.out HKS.out)
          have hS0 : w5.drew.cell? ⟨w.heap.size, 0, none⟩ = some (.int .i64 kind) ∧ w5.drew.cell? ⟨w.heap.size, 1, none⟩ = some (.string k) := ⟨d0, d1⟩
          have HC : Hid (∀ V, Below w5.heap.size w5 V → V.cell? ⟨w.heap.size, 0, none⟩ = some (.int .i64 kind) ∧ V.cell? ⟨w.heap.size, 1, none⟩ = some (.string k)) := Lib.hid (fun V hV => ⟨(HN5.out.below hV).cell 0 rfl, (HN5.out.below hV).cell 1 rfl⟩)
          go_wp2
          go_cut [10, 11, 12] (fun s10 s11 s12 wx => ∃ G oo on oc is lo ln lc k9 m9, s10 = .pointer (some ⟨G, 0, none⟩) ∧ s11 = .slice oo on oc ∧ s12 = .bool is ∧ Hid (VW w w5 wx (kindN kind) k (learnAll ks) most.toNat G lo ln lc oo on oc is k9 m9))
          case first =>
            go_region_held_law (fun V => V.cell? ⟨w.heap.size, 0, none⟩ = some (.int .i64 kind) ∧ V.cell? ⟨w.heap.size, 1, none⟩ = some (.string k))
              (first | (with_reducible exact hS0) | (refine HC.out _ ?_; repeat' (first | (with_reducible exact HBB.out) | (with_reducible exact HBA.out) | (with_reducible exact Below.refl _ _) | (with_reducible refine Below.setCell ?_ ?_ _) | (with_reducible refine Below.drew ?_) | (with_reducible refine Below.alloc ?_ ?_ _) | exact Nat.le_refl _ | exact HBA.out.size | exact HBB.out.size)))
              (first
                | (go_at_call 35; refine (HRV.out _ (by first | exact (Below.refl _ _).drew | exact (Below.refl w5.heap.size w5).drew.alloc (Nat.le_refl _) _ | exact ((Below.refl w5.heap.size w5).alloc (Nat.le_refl _) _).drew)).mono ?_; rintro e wa ⟨⟨lo, ln, lc, rfl, hk⟩, hb⟩; (first | (have HP0 : Hid (BX wa w5.heap.size 31 #[.slice none 0 0, .slice none 0 0, .int .i64 0, .int .i64 0]) := Lib.hid ((BX.new w5.drew 31 #[.slice none 0 0, .slice none 0 0, .int .i64 0, .int .i64 0]).below hb)) | (have HP0 : Hid (BX wa w5.heap.size 31 #[.slice none 0 0, .slice none 0 0, .int .i64 0, .int .i64 0]) := Lib.hid ((BX.new w5 31 #[.slice none 0 0, .slice none 0 0, .int .i64 0, .int .i64 0]).drew.below hb)) | skip); have HKA := Lib.hid hk; (first | (have HBA : Hid (Below w5.heap.size w5 wa) := Lib.hid ((Below.refl w5.heap.size w5).drew.trans (hb.mono (Nat.le_refl _)))) | (have HBA : Hid (Below w5.heap.size w5 wa) := Lib.hid (((Below.refl w5.heap.size w5).drew.alloc (Nat.le_refl _) (.cells #[.slice none 0 0, .slice none 0 0, .int .i64 0, .int .i64 0] 31)).trans (hb.mono (by show w5.heap.size ≤ (w5.drew.alloc _).heap.size; rw [World.size_alloc]; exact Nat.le_succ _))))); clear hk hb)
                | (go_at_call 34; (first | (refine (HRW.out _ _ _ _ HBA.out HKA.out.ks).mono ?_; rintro e wb ⟨oo, on, oc, is, k9, m9, rfl, hb2, hm⟩; (first | (have HPB : Hid (BX wb w5.heap.size 31 #[.slice none 0 0, .slice none 0 0, .int .i64 0, .int .i64 0]) := Lib.hid (HP0.out.below hb2)) | skip); have HBB : Hid (Below w5.heap.size w5 wb) := Lib.hid (HBA.out.trans (hb2.mono HBA.out.size)); have HMM : Hid (WM w (kindN kind) k (learnAll ks) most.toNat wb w5.heap.size oo on oc is k9 m9) := Lib.hid (WM.map hm (fun _ h => h.base HBA.out.size))) | (refine (HRW.out _ _ _ _ (HBA.out.trans ((Below.refl _ _).alloc HBA.out.size _)) (HKA.out.ks.keep ((Below.refl _ _).alloc (Nat.le_refl _) _))).mono ?_; rintro e wb ⟨oo, on, oc, is, k9, m9, rfl, hb2, hm⟩; have HPB : Hid (BX wb wa.heap.size 31 #[.slice none 0 0, .slice none 0 0, .int .i64 0, .int .i64 0]) := Lib.hid ((BX.new wa 31 #[.slice none 0 0, .slice none 0 0, .int .i64 0, .int .i64 0]).below hb2); have HBB : Hid (Below w5.heap.size w5 wb) := Lib.hid ((HBA.out.trans ((Below.refl _ _).alloc HBA.out.size (.cells #[.slice none 0 0, .slice none 0 0, .int .i64 0, .int .i64 0] 31))).trans (hb2.mono (by rw [World.size_alloc]; exact Nat.le_succ_of_le HBA.out.size))); have HMM : Hid (WM w (kindN kind) k (learnAll ks) most.toNat wb w5.heap.size oo on oc is k9 m9) := Lib.hid (WM.map hm (fun _ h => h.base (by rw [World.size_alloc]; exact Nat.le_succ_of_le HBA.out.size))))); clear hb2 hm; (first | (have k0 := HPB.out.cell 0 rfl; have k1 := HPB.out.cell 1 rfl; have k2 := HPB.out.cell 2 rfl; have k3 := HPB.out.cell 3 rfl; have y0 := HPB.out.frozen 0; have y1 := HPB.out.frozen 1; have y2 := HPB.out.frozen 2; have y3 := HPB.out.frozen 3) | skip)))
            all_goals first | go_meet | (go_step; go_meet) | (go_wp2_with fail; go_meet)
            all_goals refine ⟨_, oo, on, oc, is, lo, ln, lc, k9, m9, rfl, rfl, rfl, Lib.hid ?_⟩
            all_goals first | exact vw_set HPB.out HMM.out HBB.out (Nat.le_refl _) | exact vw_set HPB.out HMM.out HBB.out HBA.out.size | exact vw_new HMM.out HBB.out
          case rest =>
            obtain ⟨G, oo, on, oc, is, lo, ln, lc, k9, m9, rfl, rfl, rfl, HP⟩ := hcut
            obtain ⟨rfl, rfl, rfl, rfl, hboth⟩ := ways_same (HE4.out HSA.out) (HB5.out.trans (HP.out.2.1.mono HB5.out.size)) HP.out.2.2.2
            have HBO := Lib.hid hboth
            have hbc := HP.out.2.1
            have HXC := Lib.hid (HX5.out.trans (hbc.mono HX5.out.size))
            have HFC := Lib.hid (HF5.out.keep hbc)
            have HGC := Lib.hid HP.out.1
            have u0 := HP.out.1.cell 0 rfl
            have u2 := HP.out.1.cell 2 rfl
            have u3 := HP.out.1.cell 3 rfl
            clear hboth hbc d0 d1 HRV HRW hS0 HC
            have HND := Lib.hid (fun W (hb : Below wc.heap.size wc W) => need_fv W (HFC.out.keep hb))
            have hS1 : wc.drew.cell? ⟨G, 2, none⟩ = some (.int .i64 k4) ∧ wc.drew.cell? ⟨G, 3, none⟩ = some (.int .i64 m4) := ⟨u2, u3⟩
            have HC1 : Hid (∀ V, Below wc.heap.size wc V → V.cell? ⟨G, 2, none⟩ = some (.int .i64 k4) ∧ V.cell? ⟨G, 3, none⟩ = some (.int .i64 m4)) := Lib.hid (fun V hV => ⟨(HGC.out.below hV).cell 2 rfl, (HGC.out.below hV).cell 3 rfl⟩)
            clear u0
            go_wp2
            go_cut [66] (fun s66 wx => s66 = .bool false ∧ Hid (Below wc.heap.size wc wx))
            case first =>
              go_region_held_law (fun V => V.cell? ⟨G, 2, none⟩ = some (.int .i64 k4) ∧ V.cell? ⟨G, 3, none⟩ = some (.int .i64 m4))
                (first | (with_reducible exact hS1) | (refine HC1.out _ ?_; repeat' (first | (with_reducible exact HBD.out) | (with_reducible exact Below.refl _ _) | (with_reducible refine Below.drew ?_) | exact Nat.le_refl _)))
                (first
                  | (go_at_call 36; refine (HND.out _ (Below.refl _ _).drew).mono ?_; rintro e wd ⟨rfl, hbd⟩; have HBD : Hid (Below wc.heap.size wc wd) := Lib.hid ((Below.refl wc.heap.size wc).drew.trans (hbd.mono (Nat.le_refl _))); clear hbd))
              all_goals first | go_meet | (go_step; go_meet) | (go_wp2_with fail; go_meet)
              all_goals exact ⟨rfl, HBD⟩
            case rest =>
              obtain ⟨rfl, HBD⟩ := hcut
              have HXD := Lib.hid (HXC.out.trans (HBD.out.mono HXC.out.size))
              have HBD2 := Lib.hid (HBO.out.keep HBD.out)
              clear hS1 HC1 u2 u3 HND
              go_wp2
              go_loopw [69] (fun s wr => ∃ i : Nat, s = .int .i64 i ∧ i ≤ on ∧ Hid (Below wc.heap.size wc wr)) (fun s _ => on - (intOf s).toNat)
              case atStart => exact ⟨0, rfl, Nat.zero_le _, Lib.hid (Below.refl _ _)⟩
              case round =>
                obtain ⟨i, rfl, hi, hwr⟩ := hrel
                have hxw := HXD.out.trans (hwr.out.mono HXD.out.size)
                have HXW := Lib.hid hxw
                by_cases hlt : i < on
                · obtain ⟨l, hx1, hy1⟩ := HBD2.out.keep hwr.out (by omega)
                  have hbig : on ≤ 9223372036854775807 := by have := hx1.len; omega
                  obtain ⟨gx, ox, ak, nk, ck, av, nv, cv, ac, nc, cc, rfl, hP1, hc1⟩ := hx1.get hlt
                  obtain ⟨gy, oy, bk, nk2, dk, bv, nv2, dv, bc, nc2, dc, rfl, hP2, hc2⟩ := hy1.get hlt
                  obtain ⟨kn, hkn⟩ : ∃ kn, kn = kAt l i := ⟨_, rfl⟩
                  rw [← hkn] at hP1 hc1 hP2 hc2
                  obtain ⟨rfl, rfl, rfl, hnd1⟩ := PV.nd (KnO.v hP1)
                  obtain ⟨rfl, rfl, rfl, hnd2⟩ := PV.nd hP2
                  have HC2 : Hid (∀ V, Below wr.heap.size wr V → V.cell? ⟨gx, ox + i * 11, none⟩ = some (.int .i64 kn.c) ∧ V.cell? ⟨gx, ox + i * 11 + 3, none⟩ = some (.int .i64 kn.n.lv) ∧ V.cell? ⟨gx, ox + i * 11 + 4, none⟩ = some (.string kn.n.lo) ∧ V.cell? ⟨gx, ox + i * 11 + 5, none⟩ = some (.string kn.n.hi) ∧ V.cell? ⟨gx, ox + i * 11 + 6, none⟩ = some (.bool kn.n.la) ∧ V.cell? ⟨gx, ox + i * 11 + 7, none⟩ = some (.int .i64 kn.n.nx) ∧ V.cell? ⟨gx, ox + i * 11 + 8, none⟩ = some (.slice ak kn.n.ks.length ck) ∧ V.cell? ⟨gx, ox + i * 11 + 9, none⟩ = some (.slice av kn.n.vs.length cv) ∧ V.cell? ⟨gx, ox + i * 11 + 10, none⟩ = some (.slice ac kn.n.cs.length cc) ∧ V.cell? ⟨gy, oy + i * 11, none⟩ = some (.int .i64 kn.c) ∧ V.cell? ⟨gy, oy + i * 11 + 3, none⟩ = some (.int .i64 kn.n.lv) ∧ V.cell? ⟨gy, oy + i * 11 + 4, none⟩ = some (.string kn.n.lo) ∧ V.cell? ⟨gy, oy + i * 11 + 5, none⟩ = some (.string kn.n.hi) ∧ V.cell? ⟨gy, oy + i * 11 + 6, none⟩ = some (.bool kn.n.la) ∧ V.cell? ⟨gy, oy + i * 11 + 7, none⟩ = some (.int .i64 kn.n.nx) ∧ V.cell? ⟨gy, oy + i * 11 + 8, none⟩ = some (.slice bk kn.n.ks.length dk) ∧ V.cell? ⟨gy, oy + i * 11 + 9, none⟩ = some (.slice bv kn.n.vs.length dv) ∧ V.cell? ⟨gy, oy + i * 11 + 10, none⟩ = some (.slice bc kn.n.cs.length dc)) := Lib.hid (fun V hV => by
                    obtain ⟨q0, _, _, q3, q4, q5, q6, q7, q8, q9, q10⟩ := hc1 V hV
                    obtain ⟨t0, _, _, t3, t4, t5, t6, t7, t8, t9, t10⟩ := hc2 V hV
                    exact ⟨q0, q3, q4, q5, q6, q7, q8, q9, q10, t0, t3, t4, t5, t6, t7, t8, t9, t10⟩)
                  have HSM := Lib.hid (fun W (hb : Below wr.heap.size wr W) => rnsame_of kn.n.lv kn.n.nx kn.n.lo kn.n.hi kn.n.la ak av ac kn.n.ks.length ck kn.n.vs.length cv kn.n.cs.length cc kn.n.lv kn.n.nx kn.n.lo kn.n.hi kn.n.la bk bv bc kn.n.ks.length dk kn.n.vs.length dv kn.n.cs.length dc kn.n.ks kn.n.vs kn.n.cs kn.n.ks kn.n.vs kn.n.cs true W (hnd1.keep hb) (hnd2.keep (hxw.trans (hb.mono hxw.size))) ⟨fun _ => Nod.same kn.n, fun _ => rfl⟩)
                  have hS2 := HC2.out wr.drew (Below.refl _ _).drew
                  have hlt' : (i : Int) < on := by omega
                  have HLT2 := Lib.hid hlt
                  clear hx1 hy1 hP1 hP2 hc1 hc2 hnd1 hnd2 hkn hxw
                  go_wp2
                  go_cut [96] from 71 to 97 (fun s96 wx => s96 = .bool false ∧ Hid (Below wr.heap.size wr wx))
                  case first =>
                    go_region_held_law (fun V => V.cell? ⟨gx, ox + i * 11, none⟩ = some (.int .i64 kn.c) ∧ V.cell? ⟨gx, ox + i * 11 + 3, none⟩ = some (.int .i64 kn.n.lv) ∧ V.cell? ⟨gx, ox + i * 11 + 4, none⟩ = some (.string kn.n.lo) ∧ V.cell? ⟨gx, ox + i * 11 + 5, none⟩ = some (.string kn.n.hi) ∧ V.cell? ⟨gx, ox + i * 11 + 6, none⟩ = some (.bool kn.n.la) ∧ V.cell? ⟨gx, ox + i * 11 + 7, none⟩ = some (.int .i64 kn.n.nx) ∧ V.cell? ⟨gx, ox + i * 11 + 8, none⟩ = some (.slice ak kn.n.ks.length ck) ∧ V.cell? ⟨gx, ox + i * 11 + 9, none⟩ = some (.slice av kn.n.vs.length cv) ∧ V.cell? ⟨gx, ox + i * 11 + 10, none⟩ = some (.slice ac kn.n.cs.length cc) ∧ V.cell? ⟨gy, oy + i * 11, none⟩ = some (.int .i64 kn.c) ∧ V.cell? ⟨gy, oy + i * 11 + 3, none⟩ = some (.int .i64 kn.n.lv) ∧ V.cell? ⟨gy, oy + i * 11 + 4, none⟩ = some (.string kn.n.lo) ∧ V.cell? ⟨gy, oy + i * 11 + 5, none⟩ = some (.string kn.n.hi) ∧ V.cell? ⟨gy, oy + i * 11 + 6, none⟩ = some (.bool kn.n.la) ∧ V.cell? ⟨gy, oy + i * 11 + 7, none⟩ = some (.int .i64 kn.n.nx) ∧ V.cell? ⟨gy, oy + i * 11 + 8, none⟩ = some (.slice bk kn.n.ks.length dk) ∧ V.cell? ⟨gy, oy + i * 11 + 9, none⟩ = some (.slice bv kn.n.vs.length dv) ∧ V.cell? ⟨gy, oy + i * 11 + 10, none⟩ = some (.slice bc kn.n.cs.length dc))
                      (first | (with_reducible exact hS2) | (refine HC2.out _ ?_; repeat' (first | (with_reducible exact HBE.out) | (with_reducible exact Below.refl _ _) | (with_reducible refine Below.drew ?_) | exact Nat.le_refl _)))
                      (first
                        | (go_at_call 18; refine (HSM.out _ (Below.refl _ _).drew).mono ?_; rintro e we ⟨rfl, hbe⟩; have HBE : Hid (Below wr.heap.size wr we) := Lib.hid ((Below.refl wr.heap.size wr).drew.trans (hbe.mono (Nat.le_refl _))); clear hbe))
                    all_goals first | go_meet | (go_step; go_meet) | (go_wp2_with fail; go_meet)
                    all_goals exact ⟨rfl, HBE⟩
                  case rest =>
                    obtain ⟨rfl, HBE⟩ := hcut
                    have HN9 := Lib.hid (hwr.out.trans (HBE.out.mono hwr.out.size))
                    clear hS2 HC2 HSM
                    go_wp2
                    go_roundw
                    case rel => exact ⟨i + 1, by go_num, by have := HLT2.out; omega, HN9⟩
                    case measure => have := HLT2.out; simp [intOf]; omega
                · obtain rfl : i = on := by omega
                  go_wp2_with fail
                  refine (HLV.out _).mono ?_
                  rintro e w9 ⟨rfl, hb9⟩
                  have HX9 := Lib.hid (HXW.out.trans (hb9.mono HXW.out.size))
                  clear hb9
                  go_wp2
                  go_ret
                  exact ⟨rfl, HX9.out⟩
end Go.Proofs.Ytefmnfplipdnmaa
