/- find's course, down: what it tells of any view. Conditions: sizes that fit, numbers that are numbers. find's course, down, below a text: the same as Down. Conditions: sizes that fit, numbers that are numbers. find's course, down, at the end: the same as Down. Conditions: sizes that fit, numbers that are numbers. find.Leaf, Below, End; the law's way. Conditions: sizes that fit, numbers that are numbers. -/
import Derived.Test.YtdbklklmpnlinaaGreatWayKit
import Derived.BigQuiet
import Derived.WalkMore
import Derived.Deep.QuietTactic
import Derived.Laws.EntriesVeiled
namespace Go.Proofs.YtdbklklmpnlinaaGreat
open Go.RowKit Go.Maps

/-- A value that is one's, its rows' values open. -/
theorem KnO.vals {w : World} {B : Nat} {v : Value} {kn : Kn} (h : KnO w B v kn) : ∃ (ak av ac : Option Addr) (ck cv cc : Nat), v = .agg #[.int .i64 kn.c, .int .u64 kn.wd, .int .u64 kn.vr, .int .i64 kn.n.lv, .string kn.n.lo, .string kn.n.hi, .bool kn.n.la, .int .i64 kn.n.nx, .slice ak kn.n.ks.length ck, .slice av kn.n.vs.length cv, .slice ac kn.n.cs.length cc] ∧ PO w B (.slice ak kn.n.ks.length ck) (.slice av kn.n.vs.length cv) (.slice ac kn.n.cs.length cc) kn ∧ NdAt w ak av ac kn.n.ks.length ck kn.n.vs.length cv kn.n.cs.length cc kn.n.ks kn.n.vs kn.n.cs := by
  obtain ⟨kv, vv, cw, rfl, h1, h2, h3⟩ := id h
  obtain ⟨ak, ck, rfl⟩ := h1.open
  obtain ⟨av, cv, rfl⟩ := h2.open
  obtain ⟨ac, cc, rfl⟩ := h3.open
  have r1 := h1.rd
  have r2 := h2.rd
  have r3 := h3.rd
  rw [List.length_map] at h r1
  rw [List.length_map] at h r2
  rw [List.length_map] at h r3
  exact ⟨ak, av, ac, ck, cv, cc, by simp only [List.length_map, Kn.val], h, ⟨r1, r2, r3⟩⟩

theorem last_at {cs : List Int} {x : Int} (h : lastF cs = some x) : ∃ j, j < cs.length ∧ x = ni cs j := by
  unfold lastF at h
  split at h
  · cases h
  · injection h with h
    exact ⟨cs.length - 1, by omega, h.symm⟩
theorem bdn (w : World) (n : Nat) : Below w.heap.size w (w.drewN n) := ⟨rfl, rfl, rfl, Nat.le_refl _, fun _ _ => rfl⟩
theorem PO.nd {w : World} {B : Nat} {ak av ac : Option Addr} {ck cv cc : Nat} {kn : Kn} (h : PO w B (.slice ak kn.n.ks.length ck) (.slice av kn.n.vs.length cv) (.slice ac kn.n.cs.length cc) kn) : NdAt w ak av ac kn.n.ks.length ck kn.n.vs.length cv kn.n.cs.length cc kn.n.ks kn.n.vs kn.n.cs := by
  obtain ⟨kv, vv, cw, e, h1, h2, h3⟩ := h
  unfold Kn.val at e
  injection e with e
  injection e with e
  simp only [List.cons.injEq, and_true, true_and] at e
  obtain ⟨rfl, rfl, rfl⟩ := e
  exact ⟨h1.rd, h2.rd, h3.rd⟩
/-- No row of a node lies in a row of what is known. -/
theorem off_row {w : World} {C n : Nat} {v : Value} {xs : List Value} (h : w.ownsRow C 39 11 v n xs) : Off w (fun j => v.ownBlock = some j) := by
  intro g cs t hS hg
  obtain ⟨_, cs', e'⟩ := fv_block h hS
  rw [e'] at hg
  injection hg with hg
  injection hg with _ e _
  subst e
  decide
theorem All2.kl {P Q : Value → Value → Value → Kn → Prop} {ls : List (List Value)} {ks : List Kn} (h : All2 (KL P) ls ks) (hPQ : ∀ a b c kn, P a b c kn → Q a b c kn) : All2 (KL Q) ls ks := by
  induction h with
  | nil => exact .nil
  | cons h _ ih => exact .cons (h.mono (fun a b c => hPQ a b c _)) ih

set_option maxHeartbeats 8000000 in
set_option maxRecDepth 100000 in
theorem down0 (A b B N : Nat) (sv : Value) (ks : List Kn) (ss : List (Int × Int)) (kk mm most : Int) (k : ByteArray) (gk : Nat) (w : World) (h : FV w B A b sv N ks ss kk mm) (hok : ∀ kn ∈ ks, NodOk kn.n) (hmost : most < 8192) (hgk : BX w gk 9 #[.string k]) (hk : k.size ≤ 140737488355328) :
    Calls Tryz.prog 46 #[.agg #[.func (.func 42) #[] #[.pointer (some ⟨gk, 0, none⟩)], .func (.func 43) #[] #[.pointer (some ⟨gk, 0, none⟩)], .func (.func 44) #[] #[.pointer (some ⟨gk, 0, none⟩)]], .pointer (some ⟨A, 0, none⟩), .int .i64 most] w fun e w' => DownSays 0 k ks most.toNat w w' B A b N sv ss kk mm e := by
  have hx := boxed_below w (.cells #[.func (.func 42) #[] #[.pointer (some ⟨gk, 0, none⟩)], .func (.func 43) #[] #[.pointer (some ⟨gk, 0, none⟩)], .func (.func 44) #[] #[.pointer (some ⟨gk, 0, none⟩)]] 79)
  have n1 := BX.new w 79 #[.func (.func 42) #[] #[.pointer (some ⟨gk, 0, none⟩)], .func (.func 43) #[] #[.pointer (some ⟨gk, 0, none⟩)], .func (.func 44) #[] #[.pointer (some ⟨gk, 0, none⟩)]]
  obtain ⟨W1, hW1⟩ : ∃ W, W = w.alloc (.cells #[.func (.func 42) #[] #[.pointer (some ⟨gk, 0, none⟩)], .func (.func 43) #[] #[.pointer (some ⟨gk, 0, none⟩)], .func (.func 44) #[] #[.pointer (some ⟨gk, 0, none⟩)]] 79) := ⟨_, rfl⟩
  rw [← hW1] at hx n1
  have HGK := Lib.hid (hgk.below hx)
  have HK := Lib.hid hk
  clear hgk hk
  have HF1 := Lib.hid (h.keep hx)
  have HX := Lib.hid hx
  have HN1 := Lib.hid n1
  have HW := Lib.hid hW1
  have HOK := Lib.hid hok
  have HSZ : Hid (w.heap.size ≤ W1.heap.size) := Lib.hid hx.size
  obtain ⟨i0, hi0, hz0, hz1, hz2⟩ := info_parts fvInfoKn
  have HI := Lib.hid (show _ ∧ _ ∧ _ ∧ _ from ⟨hi0, hz0, hz1, hz2⟩)
  clear hx n1 hW1 h hok hi0 hz0 hz1 hz2
  go_enter Tryz.func46, Tryz.ntmps46
  go_wp2
  go_step3
  rw [← HW.out]
  clear HW
  go_wp2
  go_step3
  go_wp2
  go_loopw [8, 9, 10, 17] (fun s8 s9 s10 s17 wr => ∃ (i : Nat) (c lv : Int) (ao : Option Addr) (n cp : Nat) (acc : List Kn), s8 = .slice ao n cp ∧ s9 = .int .i64 c ∧ s10 = .int .i64 lv ∧ s17 = .int .i64 i ∧ i ≤ most.toNat ∧ n ≤ i ∧ Hid (KsR (PO wr B) wr W1.heap.size (.slice ao n cp) acc ∧ Below W1.heap.size W1 wr ∧ (Lit.int .i64 c).wf = true ∧ Inv 0 k ks most.toNat i c lv acc)) (fun _ _ _ s _ => most.toNat - (intOf s).toNat)
  case atStart => exact ⟨0, 0, 0, none, 0, 0, [], rfl, rfl, rfl, rfl, Nat.zero_le _, Nat.le_refl _, Lib.hid ⟨KsR.nil _ _ _, Below.refl _ _, by decide, Inv.start 0⟩⟩
  case round =>
    obtain ⟨i, c, lv, ao, n, cp, acc, rfl, rfl, rfl, rfl, hi, hn, HV⟩ := hrel
    have HFR := Lib.hid (HF1.out.keep HV.out.2.1)
    by_cases hlt : (i : Int) < most
    · have HIM := Lib.hid (show i < most.toNat by omega)
      cases hk : kfind ks c with
      | none =>
        have HA := Lib.hid (at_miss c wr HV.out.2.2.1 HFR.out hk)
        have HKF := Lib.hid hk
        clear hk
        go_wp2_with fail
        refine HA.out.mono ?_
        rintro e w5 ⟨rfl, hf5, ht5⟩
        have HF5 := Lib.hid hf5
        have HT5 := Lib.hid ((Turn.of (S := VS A b sv) (HX.out.trans (HV.out.2.1.mono HX.out.size))).trans ht5)
        clear hf5 ht5
        go_wp2
        try rw [Exit.noGoto_ret]
        go_ret2
        refine ⟨none, 0, 0, false, _, _, rfl, HF5.out.keep (((Below.refl _ w5).alloc (Nat.le_refl _) _).alloc (by rw [World.size_alloc]; omega) _), HT5.out.trans (Turn.of (((Below.refl _ w5).alloc (Nat.le_refl _) _).alloc (by rw [World.size_alloc]; omega) _)), fun hs => ?_⟩
        unfold Ends
        rw [HV.out.2.2.2.miss HIM.out HKF.out hs]
        exact ⟨rfl, rfl, rfl, rfl⟩
      | some kn =>
        have HA := Lib.hid (at_hit c wr HV.out.2.2.1 HFR.out hk)
        have HKF := Lib.hid hk
        have HNO := Lib.hid (HOK.out kn (kfind_mem hk))
        clear hk
        go_wp2_with fail
        refine HA.out.mono ?_
        rintro e w5 ⟨⟨v, rfl, hv⟩, hf5, hb5⟩
        obtain ⟨ak, av, ac, ck, cv, cc, rfl, hpo, hnd⟩ := hv.vals
        have n6 := BX.new w5 39 #[.int .i64 kn.c, .int .u64 kn.wd, .int .u64 kn.vr, .int .i64 kn.n.lv, .string kn.n.lo, .string kn.n.hi, .bool kn.n.la, .int .i64 kn.n.nx, .slice ak kn.n.ks.length ck, .slice av kn.n.vs.length cv, .slice ac kn.n.cs.length cc]
        have hx6 := boxed_below w5 (.cells #[.int .i64 kn.c, .int .u64 kn.wd, .int .u64 kn.vr, .int .i64 kn.n.lv, .string kn.n.lo, .string kn.n.hi, .bool kn.n.la, .int .i64 kn.n.nx, .slice ak kn.n.ks.length ck, .slice av kn.n.vs.length cv, .slice ac kn.n.cs.length cc] 39)
        have n7 := BX.new (w5.alloc (.cells #[.int .i64 kn.c, .int .u64 kn.wd, .int .u64 kn.vr, .int .i64 kn.n.lv, .string kn.n.lo, .string kn.n.hi, .bool kn.n.la, .int .i64 kn.n.nx, .slice ak kn.n.ks.length ck, .slice av kn.n.vs.length cv, .slice ac kn.n.cs.length cc] 39)) 36 #[.int .i64 kn.n.lv, .string kn.n.lo, .string kn.n.hi, .bool kn.n.la, .int .i64 kn.n.nx, .slice ak kn.n.ks.length ck, .slice av kn.n.vs.length cv, .slice ac kn.n.cs.length cc]
        have hx7 := boxed_below (w5.alloc (.cells #[.int .i64 kn.c, .int .u64 kn.wd, .int .u64 kn.vr, .int .i64 kn.n.lv, .string kn.n.lo, .string kn.n.hi, .bool kn.n.la, .int .i64 kn.n.nx, .slice ak kn.n.ks.length ck, .slice av kn.n.vs.length cv, .slice ac kn.n.cs.length cc] 39)) (.cells #[.int .i64 kn.n.lv, .string kn.n.lo, .string kn.n.hi, .bool kn.n.la, .int .i64 kn.n.nx, .slice ak kn.n.ks.length ck, .slice av kn.n.vs.length cv, .slice ac kn.n.cs.length cc] 36)
        have hbx := hx6.trans (hx7.mono hx6.size)
        obtain ⟨W7, hW7⟩ : ∃ W, W = (w5.alloc (.cells #[.int .i64 kn.c, .int .u64 kn.wd, .int .u64 kn.vr, .int .i64 kn.n.lv, .string kn.n.lo, .string kn.n.hi, .bool kn.n.la, .int .i64 kn.n.nx, .slice ak kn.n.ks.length ck, .slice av kn.n.vs.length cv, .slice ac kn.n.cs.length cc] 39)).alloc (.cells #[.int .i64 kn.n.lv, .string kn.n.lo, .string kn.n.hi, .bool kn.n.la, .int .i64 kn.n.nx, .slice ak kn.n.ks.length ck, .slice av kn.n.vs.length cv, .slice ac kn.n.cs.length cc] 36) := ⟨_, rfl⟩
        have n67 := n6.below hx7
        rw [← hW7] at n7 n67 hbx
        rw [World.size_alloc] at n7
        have HB7 := Lib.hid ((HV.out.2.1.trans (hb5.mono HV.out.2.1.size)).trans (hbx.mono (HV.out.2.1.trans (hb5.mono HV.out.2.1.size)).size))
        have HN6 := Lib.hid n67
        have HN7 := Lib.hid n7
        have HPO := Lib.hid (hpo.keep hbx)
        have HWAY := Lib.hid ((HV.out.1.later hb5).later hbx)
        have HW7 := Lib.hid hW7
        have HR7 := Lib.hid (Below.refl W7.heap.size W7)
        have HG := Lib.hid (show w5.heap.size + 1 = w5.heap.size + 1 from rfl)
        clear hf5 hb5 hpo hnd hv n6 n7 n67 hx6 hx7 hbx hW7
        have hcase : (i = 0 ∨ (0 < i ∧ kn.n.lv = lv)) ∨ (0 < i ∧ kn.n.lv ≠ lv) := by omega
        rcases hcase with hcase | ⟨hi0, hl⟩
        rotate_left
        · have HEND := Lib.hid (fun hs => HV.out.2.2.2.level HIM.out HKF.out hi0 hl hs)
          have hi0' : (0 : Int) < i := by omega
          have hl2 : (kn.n.lv == lv) = false := beq_eq_false_iff_ne.2 hl
          have hl3 : ((kn.n.lv : Int) == lv) = false := hl2
          go_wp2_with fail
          rw [← HW7.out]
          refine (giveUp_fv _ (HF1.out.keep (HB7.out.trans (HR7.out.mono HB7.out.size)))).mono ?_
          rintro e w9 ⟨rfl, hf9, ht9⟩
          have HF9 := Lib.hid hf9
          have HT9 := Lib.hid (Turn.trans (Turn.of (S := VS A b sv) (HX.out.trans ((HB7.out.trans (HR7.out.mono HB7.out.size)).mono HX.out.size))) ht9)
          clear hf9 ht9
          go_wp2
          try rw [Exit.noGoto_ret]
          go_ret2
          refine ⟨none, 0, 0, false, _, _, rfl, HF9.out, HT9.out, fun hs => ?_⟩
          unfold Ends
          rw [HEND.out hs]
          exact ⟨rfl, rfl, rfl, rfl⟩
        · have HL := Lib.hid (show 0 < i → kn.n.lv = lv from fun h => by omega)
          have HC1 := Lib.hid (fun W (hb : Below W7.heap.size W7 W) => (show Calls _ _ _ W (fun e w' => e = .returned (.bool (astrayF 0 k kn.n)) ∧ Below W.heap.size W w') from leaf1_any kn.n.lv kn.n.nx kn.n.lo kn.n.hi kn.n.la ak av ac kn.n.ks.length ck kn.n.vs.length cv kn.n.cs.length cc gk k W ((HGK.out.below (HB7.out.trans (hb.mono HB7.out.size))).cell 0 rfl)))
          have HC2 := Lib.hid (fun W (hb : Below W7.heap.size W7 W) => (show Calls _ _ _ W (fun e w' => e = .returned (.bool (onF 0 k kn.n)) ∧ Below W.heap.size W w') from leaf2_any kn.n.lv kn.n.nx kn.n.lo kn.n.hi kn.n.la ak av ac kn.n.ks.length ck kn.n.vs.length cv kn.n.cs.length cc gk k W ((HGK.out.below (HB7.out.trans (hb.mono HB7.out.size))).cell 0 rfl) HNO.out.lo HNO.out.hi HK.out))
          have HC3 := Lib.hid (fun W (hb : Below W1.heap.size W1 W) hnd => (show Calls _ _ _ W (fun e w' => ∃ (x : Int) (bb : Bool), e = .returned (.tuple #[.int .i64 x, .bool bb]) ∧ (bb = true → ∃ j, j < kn.n.cs.length ∧ x = ni kn.n.cs j) ∧ (AllS ks → kn.n.lv ≠ 0 → kidOf 0 k kn.n = if bb then some x else none) ∧ Below W.heap.size W w') from (leaf3_any kn.n.lv kn.n.nx kn.n.lo kn.n.hi kn.n.la ak av ac kn.n.ks.length ck kn.n.vs.length cv kn.n.cs.length cc gk k W ((HGK.out.below hb).cell 0 rfl) kn.n.ks kn.n.vs kn.n.cs hnd HK.out HNO.out.ks (by have := HNO.out.n1; omega)).mono (fun e w' ⟨x, bb, he, h1, h2, h3⟩ => ⟨x, bb, he, h1, fun hs hz => kid_sound HKF.out hz h2 hs, h3⟩)))
          rcases hcase with hi0 | ⟨hi0, hl⟩
          · subst hi0
            cases ha : astrayF 0 k kn.n with
            | true =>
              have HEND := Lib.hid (fun hs => HV.out.2.2.2.astray HIM.out HKF.out ha hs)
              have HQ := HC1.out W7 HR7.out
              rw [ha] at HQ
              have HQ1 := Lib.hid HQ
              clear HQ ha
              have nda := HN7.out.below HR7.out
              have coa := HN1.out.below (HB7.out.trans (HR7.out.mono HB7.out.size))
              have pa0 := nda.cell 0 rfl
              have pa1 := nda.cell 1 rfl
              have pa2 := nda.cell 2 rfl
              have pa3 := nda.cell 3 rfl
              have pa4 := nda.cell 4 rfl
              have pa5 := nda.cell 5 rfl
              have pa6 := nda.cell 6 rfl
              have pa7 := nda.cell 7 rfl
              have da0 := coa.cell 0 rfl
              have da1 := coa.cell 1 rfl
              have da2 := coa.cell 2 rfl
              clear nda coa
              rw [HW7.out] at da0 da1 da2
              go_wp2_with fail
              rw [← HW7.out]
              refine HQ1.out.mono ?_
              rintro e w8 ⟨rfl, hb8⟩
              have H8 := Lib.hid hb8
              clear pa0 pa1 pa2 pa3 pa4 pa5 pa6 pa7 da0 da1 da2
              clear hb8
              go_wp2_with fail
              refine (giveUp_fv _ (HF1.out.keep (HB7.out.trans (H8.out.mono HB7.out.size)))).mono ?_
              rintro e w9 ⟨rfl, hf9, ht9⟩
              have HF9 := Lib.hid hf9
              have HT9 := Lib.hid (Turn.trans (Turn.of (S := VS A b sv) (HX.out.trans ((HB7.out.trans (H8.out.mono HB7.out.size)).mono HX.out.size))) ht9)
              clear hf9 ht9
              go_wp2
              try rw [Exit.noGoto_ret]
              go_ret2
              refine ⟨none, 0, 0, false, _, _, rfl, HF9.out, HT9.out, fun hs => ?_⟩
              unfold Ends
              rw [HEND.out hs]
              exact ⟨rfl, rfl, rfl, rfl⟩
            | false =>
              have HQ := HC1.out W7 HR7.out
              rw [ha] at HQ
              have HQ1 := Lib.hid HQ
              have HAS := Lib.hid ha
              clear HQ ha
              have nda := HN7.out.below HR7.out
              have coa := HN1.out.below (HB7.out.trans (HR7.out.mono HB7.out.size))
              have pa0 := nda.cell 0 rfl
              have pa1 := nda.cell 1 rfl
              have pa2 := nda.cell 2 rfl
              have pa3 := nda.cell 3 rfl
              have pa4 := nda.cell 4 rfl
              have pa5 := nda.cell 5 rfl
              have pa6 := nda.cell 6 rfl
              have pa7 := nda.cell 7 rfl
              have da0 := coa.cell 0 rfl
              have da1 := coa.cell 1 rfl
              have da2 := coa.cell 2 rfl
              clear nda coa
              rw [HW7.out] at da0 da1 da2
              go_wp2_with fail
              rw [← HW7.out]
              refine HQ1.out.mono ?_
              rintro e w8 ⟨rfl, hb8⟩
              have H8 := Lib.hid hb8
              clear pa0 pa1 pa2 pa3 pa4 pa5 pa6 pa7 da0 da1 da2
              clear hb8 HQ1
              have ndb := HN7.out.below H8.out
              have cob := HN1.out.below (HB7.out.trans (H8.out.mono HB7.out.size))
              have pb0 := ndb.cell 0 rfl
              have pb1 := ndb.cell 1 rfl
              have pb2 := ndb.cell 2 rfl
              have pb3 := ndb.cell 3 rfl
              have pb4 := ndb.cell 4 rfl
              have pb5 := ndb.cell 5 rfl
              have pb6 := ndb.cell 6 rfl
              have pb7 := ndb.cell 7 rfl
              have db0 := cob.cell 0 rfl
              have db1 := cob.cell 1 rfl
              have db2 := cob.cell 2 rfl
              clear ndb cob
              cases ho : onF 0 k kn.n with
              | false =>
                have HQ := HC2.out w8 H8.out
                rw [ho] at HQ
                have HQ2 := Lib.hid HQ
                have HON := Lib.hid ho
                clear HQ ho
                go_wp2_with fail
                refine HQ2.out.mono ?_
                rintro e w9 ⟨rfl, hb9⟩
                have H9 := Lib.hid (H8.out.trans (hb9.mono H8.out.size))
                clear pb0 pb1 pb2 pb3 pb4 pb5 pb6 pb7 db0 db1 db2
                clear hb9 HQ2
                have ndc := HN7.out.below H9.out
                have coc := HN1.out.below (HB7.out.trans (H9.out.mono HB7.out.size))
                have pc0 := ndc.cell 0 rfl
                have pc1 := ndc.cell 1 rfl
                have pc2 := ndc.cell 2 rfl
                have pc3 := ndc.cell 3 rfl
                have pc4 := ndc.cell 4 rfl
                have pc5 := ndc.cell 5 rfl
                have pc6 := ndc.cell 6 rfl
                have pc7 := ndc.cell 7 rfl
                have dc0 := coc.cell 0 rfl
                have dc1 := coc.cell 1 rfl
                have dc2 := coc.cell 2 rfl
                clear ndc coc
                go_wp2
                go_quiet (fail)
                go_wp2
                go_roundw
                case rel => exact ⟨0 + 1, kn.n.nx, kn.n.lv, ao, n, cp, acc, rfl, rfl, rfl, by go_num, by omega, by omega, Lib.hid ⟨(HWAY.out.later H9.out).later (bdn _ _), (HB7.out.trans (H9.out.mono HB7.out.size)).trans ((bdn _ _).mono (HB7.out.trans (H9.out.mono HB7.out.size)).size), HNO.out.nx, HV.out.2.2.2.over HIM.out HKF.out (fun h => absurd h (Nat.lt_irrefl _)) HAS.out HON.out⟩⟩
                case measure => simp [intOf]; omega
              | true =>
                have HQ := HC2.out w8 H8.out
                rw [ho] at HQ
                have HQ2 := Lib.hid HQ
                have HON := Lib.hid ho
                clear HQ ho
                go_wp2_with fail
                refine HQ2.out.mono ?_
                rintro e w9 ⟨rfl, hb9⟩
                have H9 := Lib.hid (H8.out.trans (hb9.mono H8.out.size))
                clear pb0 pb1 pb2 pb3 pb4 pb5 pb6 pb7 db0 db1 db2
                clear hb9 HQ2
                have nk9 := HN6.out.below H9.out
                have r0 := nk9.cell 0 rfl
                have r1 := nk9.cell 1 rfl
                have r2 := nk9.cell 2 rfl
                have r3 := nk9.cell 3 rfl
                have r4 := nk9.cell 4 rfl
                have r5 := nk9.cell 5 rfl
                have r6 := nk9.cell 6 rfl
                have r7 := nk9.cell 7 rfl
                have r8 := nk9.cell 8 rfl
                have r9 := nk9.cell 9 rfl
                have r10 := nk9.cell 10 rfl
                clear nk9
                have HW9 := Lib.hid (HWAY.out.later H9.out)
                have hacc : n = acc.length := HW9.out.ks.len.1
                obtain ⟨ls, hls, hown⟩ := HW9.out
                rw [← hacc] at hown
                have hbA : Below w9.heap.size w9 (w9.alloc (.cells #[.int .i64 kn.c, .int .u64 kn.wd, .int .u64 kn.vr, .int .i64 kn.n.lv, .string kn.n.lo, .string kn.n.hi, .bool kn.n.la, .int .i64 kn.n.nx, .slice ak kn.n.ks.length ck, .slice av kn.n.vs.length cv, .slice ac kn.n.cs.length cc] 39)) := (Below.refl _ _).alloc (Nat.le_refl _) _
                have ho1 := fv_stays hown hbA
                have hnews := World.news_of_block (cs := #[.int .i64 kn.c, .int .u64 kn.wd, .int .u64 kn.vr, .int .i64 kn.n.lv, .string kn.n.lo, .string kn.n.hi, .bool kn.n.la, .int .i64 kn.n.nx, .slice ak kn.n.ks.length ck, .slice av kn.n.vs.length cv, .slice ac kn.n.cs.length cc]) (heap_alloc_new w9 (.cells #[.int .i64 kn.c, .int .u64 kn.wd, .int .u64 kn.vr, .int .i64 kn.n.lv, .string kn.n.lo, .string kn.n.hi, .bool kn.n.la, .int .i64 kn.n.nx, .slice ak kn.n.ks.length ck, .slice av kn.n.vs.length cv, .slice ac kn.n.cs.length cc] 39))
                have hKL : KL (PO w9 B) [.int .i64 kn.c, .int .u64 kn.wd, .int .u64 kn.vr, .int .i64 kn.n.lv, .string kn.n.lo, .string kn.n.hi, .bool kn.n.la, .int .i64 kn.n.nx, .slice ak kn.n.ks.length ck, .slice av kn.n.vs.length cv, .slice ac kn.n.cs.length cc] kn := ⟨ak, _, ck, av, _, cv, ac, _, cc, rfl, HPO.out.keep H9.out⟩
                have hone := hKL.ones
                have HH := Lib.hid (show _ ∧ _ ∧ _ ∧ _ from ⟨hls, ho1, hnews, hone⟩)
                have HBA := Lib.hid hbA
                have HACC := Lib.hid hacc
                have hb9s := HB7.out.trans (H9.out.mono HB7.out.size)
                have HS9 := Lib.hid (show W1.heap.size ≤ (w9.alloc (.cells #[.int .i64 kn.c, .int .u64 kn.wd, .int .u64 kn.vr, .int .i64 kn.n.lv, .string kn.n.lo, .string kn.n.hi, .bool kn.n.la, .int .i64 kn.n.nx, .slice ak kn.n.ks.length ck, .slice av kn.n.vs.length cv, .slice ac kn.n.cs.length cc] 39)).heap.size from Nat.le_trans hb9s.size hbA.size)
                have HB9 := Lib.hid (hb9s.trans (hbA.mono hb9s.size))
                have HPO9 := Lib.hid ((HPO.out.keep H9.out).keep hbA)
                have HN9 := Lib.hid ((HN7.out.below H9.out).below hbA)
                clear hown hbA ho1 hnews hone hls hKL hacc hb9s
                go_wp2_with ((with_reducible show wpList _ _ _ (⟨some 57, _, _, _, _, _⟩ :: _) _ _); refine wpList_append_own (o := ⟨some 57, _, _, _, _, _⟩) _ rfl _ _ 22 rfl W1.heap.size 39 i0 (.agg #[.int .i64 0, .int .u64 0, .int .u64 0, .int .i64 0, .string ⟨#[]⟩, .string ⟨#[]⟩, .bool false, .int .i64 0, .slice none 0 0, .slice none 0 0, .slice none 0 0]) 11 152 Tryz.underlying22 HI.out.1 HI.out.2.1 HI.out.2.2.1 HI.out.2.2.2 rfl (by decide) _ _ _ rfl HH.out.2.1 ⟨w9.heap.size, 0, none⟩ 1 1 [.int .i64 kn.c, .int .u64 kn.wd, .int .u64 kn.vr, .int .i64 kn.n.lv, .string kn.n.lo, .string kn.n.hi, .bool kn.n.la, .int .i64 kn.n.nx, .slice ak kn.n.ks.length ck, .slice av kn.n.vs.length cv, .slice ac kn.n.cs.length cc] rfl rfl HH.out.2.2.1 HH.out.2.2.2 (by unfold maxLen; omega) (by omega) HS9.out ?_)
                intro v2 w10 hown2 hgrow2 _
                have ht10 : Turn (fun j => (Value.slice ao n cp).ownBlock = some j) (w9.alloc (.cells #[.int .i64 kn.c, .int .u64 kn.wd, .int .u64 kn.vr, .int .i64 kn.n.lv, .string kn.n.lo, .string kn.n.hi, .bool kn.n.la, .int .i64 kn.n.nx, .slice ak kn.n.ks.length ck, .slice av kn.n.vs.length cv, .slice ac kn.n.cs.length cc] 39)) w10 := (Turn.refl _ _).grown hgrow2 (fun j hj => Or.inl hj)
                have hpo10 : PO w10 B (.slice ak kn.n.ks.length ck) (.slice av kn.n.vs.length cv) (.slice ac kn.n.cs.length cc) kn := KnO.turn (S := fun j => (Value.slice ao n cp).ownBlock = some j) HPO9.out (off_row HH.out.2.1) ht10
                have hway10 : KsR (PO w10 B) w10 W1.heap.size v2 (acc ++ [kn]) := KsR.add (HH.out.1.kl (fun _ _ _ _ hp => KnO.turn (S := fun j => (Value.slice ao n cp).ownBlock = some j) (hp.keep HBA.out) (off_row HH.out.2.1) ht10)) ⟨ak, _, ck, av, _, cv, ac, _, cc, rfl, hpo10⟩ (by rw [← HACC.out]; exact hown2)
                have hB10 : Below W1.heap.size W1 w10 := HB9.out.grown hgrow2 HS9.out (fun j hj => (fv_block HH.out.2.1 hj).1)
                have hnd10 : BX w10 (w5.heap.size + 1) 36 #[.int .i64 kn.n.lv, .string kn.n.lo, .string kn.n.hi, .bool kn.n.la, .int .i64 kn.n.nx, .slice ak kn.n.ks.length ck, .slice av kn.n.vs.length cv, .slice ac kn.n.cs.length cc] := (hgrow2.block _ (lt_of_block HN9.out) (fun e => by
                  obtain ⟨_, cs', e'⟩ := fv_block HH.out.2.1 e.symm
                  have e2 := HN9.out
                  unfold BX at e2
                  rw [e2] at e'
                  injection e' with e'
                  injection e' with _ e3 _
                  exact absurd e3 (by decide))).trans HN9.out
                have hco10 := HN1.out.below hB10
                obtain ⟨ao2, cp2, rfl⟩ := hway10.open
                obtain ⟨n2, hn2⟩ : ∃ n2, n2 = (acc ++ [kn]).length := ⟨_, rfl⟩
                rw [← hn2] at hway10 ⊢
                have hn2' : n2 ≤ 0 + 1 := by
                  have := HACC.out
                  rw [List.length_append, List.length_singleton] at hn2
                  omega
                have p0 := hnd10.cell 0 rfl
                have p1 := hnd10.cell 1 rfl
                have p2 := hnd10.cell 2 rfl
                have p3 := hnd10.cell 3 rfl
                have p4 := hnd10.cell 4 rfl
                have p5 := hnd10.cell 5 rfl
                have p6 := hnd10.cell 6 rfl
                have p7 := hnd10.cell 7 rfl
                have d0 := hco10.cell 0 rfl
                have d1 := hco10.cell 1 rfl
                have d2 := hco10.cell 2 rfl
                have HPO10 := Lib.hid hpo10
                have HWAY10 := Lib.hid hway10
                have HB10 := Lib.hid hB10
                have HND10 := Lib.hid hnd10
                clear hpo10 hway10 hB10 hnd10 hco10 ht10 hown2 hgrow2 hn2 HH HBA HS9 HB9 HPO9 HN9 HW9 r0 r1 r2 r3 r4 r5 r6 r7 r8 r9 r10
                by_cases hz : kn.n.lv = 0
                · have hz2 : ((kn.n.lv : Int) == 0) = true := by rw [beq_iff_eq]; exact hz
                  have HZ := Lib.hid hz
                  clear hz
                  go_wp2
                  try rw [Exit.noGoto_ret]
                  go_ret2
                  refine ⟨ao2, n2, cp2, true, kk, mm, rfl, HF1.out.keep HB10.out, Turn.of (S := VS A b sv) (HX.out.trans (HB10.out.mono HX.out.size)), fun hs => ?_⟩
                  unfold Ends
                  rw [HV.out.2.2.2.done HIM.out HKF.out (fun h => absurd h (Nat.lt_irrefl _)) HAS.out HON.out HZ.out hs]
                  exact ⟨rfl, rfl, rfl, HWAY10.out.base HSZ.out⟩
                · have hz2 : ((kn.n.lv : Int) == 0) = false := by rw [beq_eq_false_iff_ne]; exact hz
                  have HZ := Lib.hid hz
                  clear hz
                  have HQ3 := Lib.hid (HC3.out w10 HB10.out HPO10.out.nd)
                  go_wp2_with fail
                  refine HQ3.out.mono ?_
                  rintro e w11 ⟨x, bb, rfl, hx1, hx2, hb11⟩
                  have HX1 := Lib.hid hx1
                  have HX2 := Lib.hid hx2
                  have H11 := Lib.hid hb11
                  have HB11 := Lib.hid (HB10.out.trans (hb11.mono HB10.out.size))
                  clear hx1 hx2 HQ3 p0 p1 p2 p3 p4 p5 p6 p7 d0 d1 d2
                  have nd11 := HND10.out.below hb11
                  have p0 := nd11.cell 0 rfl
                  clear nd11 hb11
                  cases bb with
                  | false =>
                    have HEND := Lib.hid (fun hs => HV.out.2.2.2.nokid HIM.out HKF.out (fun h => absurd h (Nat.lt_irrefl _)) HAS.out HON.out HZ.out (fun hs => HX2.out hs HZ.out) hs)
                    go_wp2_with fail
                    refine (giveUp_fv _ (HF1.out.keep HB11.out)).mono ?_
                    rintro e w19 ⟨rfl, hf9, ht9⟩
                    have HF9 := Lib.hid hf9
                    have HT9 := Lib.hid (Turn.trans (Turn.of (S := VS A b sv) (HX.out.trans (HB11.out.mono HX.out.size))) ht9)
                    clear hf9 ht9
                    go_wp2
                    try rw [Exit.noGoto_ret]
                    go_ret2
                    refine ⟨none, 0, 0, false, _, _, rfl, HF9.out, HT9.out, fun hs => ?_⟩
                    unfold Ends
                    rw [HEND.out hs]
                    exact ⟨rfl, rfl, rfl, rfl⟩
                  | true =>
                    obtain ⟨z, hzz⟩ : ∃ z, IntKind.i64.wrap (kn.n.lv - 1) = z := ⟨_, rfl⟩
                    have HZZ := Lib.hid hzz
                    go_wp2
                    go_roundw
                    case rel => exact ⟨0 + 1, x, z, ao2, n2, cp2, acc ++ [kn], rfl, rfl, by first | rfl | (rw [← HZZ.out]), by go_num, by omega, by omega, Lib.hid ⟨HWAY10.out.later H11.out, HB11.out, by obtain ⟨j, hj, rfl⟩ := HX1.out (by first | rfl | trivial); exact HNO.out.cs j hj, HV.out.2.2.2.kid HIM.out HKF.out (fun h => absurd h (Nat.lt_irrefl _)) HAS.out HON.out HZ.out (fun hs => HX2.out hs HZ.out) (fun h0 h1 => by rw [← HZZ.out, IntKind.wrap_i64]; omega)⟩⟩
                    case measure => simp [intOf]; omega
          · subst hl
            have hi0' : (0 : Int) < i := by omega
            cases ha : astrayF 0 k kn.n with
            | true =>
              have HEND := Lib.hid (fun hs => HV.out.2.2.2.astray HIM.out HKF.out ha hs)
              have HQ := HC1.out W7 HR7.out
              rw [ha] at HQ
              have HQ1 := Lib.hid HQ
              clear HQ ha
              have nda := HN7.out.below HR7.out
              have coa := HN1.out.below (HB7.out.trans (HR7.out.mono HB7.out.size))
              have pa0 := nda.cell 0 rfl
              have pa1 := nda.cell 1 rfl
              have pa2 := nda.cell 2 rfl
              have pa3 := nda.cell 3 rfl
              have pa4 := nda.cell 4 rfl
              have pa5 := nda.cell 5 rfl
              have pa6 := nda.cell 6 rfl
              have pa7 := nda.cell 7 rfl
              have da0 := coa.cell 0 rfl
              have da1 := coa.cell 1 rfl
              have da2 := coa.cell 2 rfl
              clear nda coa
              rw [HW7.out] at da0 da1 da2
              go_wp2_with fail
              rw [← HW7.out]
              refine HQ1.out.mono ?_
              rintro e w8 ⟨rfl, hb8⟩
              have H8 := Lib.hid hb8
              clear pa0 pa1 pa2 pa3 pa4 pa5 pa6 pa7 da0 da1 da2
              clear hb8
              go_wp2_with fail
              refine (giveUp_fv _ (HF1.out.keep (HB7.out.trans (H8.out.mono HB7.out.size)))).mono ?_
              rintro e w9 ⟨rfl, hf9, ht9⟩
              have HF9 := Lib.hid hf9
              have HT9 := Lib.hid (Turn.trans (Turn.of (S := VS A b sv) (HX.out.trans ((HB7.out.trans (H8.out.mono HB7.out.size)).mono HX.out.size))) ht9)
              clear hf9 ht9
              go_wp2
              try rw [Exit.noGoto_ret]
              go_ret2
              refine ⟨none, 0, 0, false, _, _, rfl, HF9.out, HT9.out, fun hs => ?_⟩
              unfold Ends
              rw [HEND.out hs]
              exact ⟨rfl, rfl, rfl, rfl⟩
            | false =>
              have HQ := HC1.out W7 HR7.out
              rw [ha] at HQ
              have HQ1 := Lib.hid HQ
              have HAS := Lib.hid ha
              clear HQ ha
              have nda := HN7.out.below HR7.out
              have coa := HN1.out.below (HB7.out.trans (HR7.out.mono HB7.out.size))
              have pa0 := nda.cell 0 rfl
              have pa1 := nda.cell 1 rfl
              have pa2 := nda.cell 2 rfl
              have pa3 := nda.cell 3 rfl
              have pa4 := nda.cell 4 rfl
              have pa5 := nda.cell 5 rfl
              have pa6 := nda.cell 6 rfl
              have pa7 := nda.cell 7 rfl
              have da0 := coa.cell 0 rfl
              have da1 := coa.cell 1 rfl
              have da2 := coa.cell 2 rfl
              clear nda coa
              rw [HW7.out] at da0 da1 da2
              go_wp2_with fail
              rw [← HW7.out]
              refine HQ1.out.mono ?_
              rintro e w8 ⟨rfl, hb8⟩
              have H8 := Lib.hid hb8
              clear pa0 pa1 pa2 pa3 pa4 pa5 pa6 pa7 da0 da1 da2
              clear hb8 HQ1
              have ndb := HN7.out.below H8.out
              have cob := HN1.out.below (HB7.out.trans (H8.out.mono HB7.out.size))
              have pb0 := ndb.cell 0 rfl
              have pb1 := ndb.cell 1 rfl
              have pb2 := ndb.cell 2 rfl
              have pb3 := ndb.cell 3 rfl
              have pb4 := ndb.cell 4 rfl
              have pb5 := ndb.cell 5 rfl
              have pb6 := ndb.cell 6 rfl
              have pb7 := ndb.cell 7 rfl
              have db0 := cob.cell 0 rfl
              have db1 := cob.cell 1 rfl
              have db2 := cob.cell 2 rfl
              clear ndb cob
              cases ho : onF 0 k kn.n with
              | false =>
                have HQ := HC2.out w8 H8.out
                rw [ho] at HQ
                have HQ2 := Lib.hid HQ
                have HON := Lib.hid ho
                clear HQ ho
                go_wp2_with fail
                refine HQ2.out.mono ?_
                rintro e w9 ⟨rfl, hb9⟩
                have H9 := Lib.hid (H8.out.trans (hb9.mono H8.out.size))
                clear pb0 pb1 pb2 pb3 pb4 pb5 pb6 pb7 db0 db1 db2
                clear hb9 HQ2
                have ndc := HN7.out.below H9.out
                have coc := HN1.out.below (HB7.out.trans (H9.out.mono HB7.out.size))
                have pc0 := ndc.cell 0 rfl
                have pc1 := ndc.cell 1 rfl
                have pc2 := ndc.cell 2 rfl
                have pc3 := ndc.cell 3 rfl
                have pc4 := ndc.cell 4 rfl
                have pc5 := ndc.cell 5 rfl
                have pc6 := ndc.cell 6 rfl
                have pc7 := ndc.cell 7 rfl
                have dc0 := coc.cell 0 rfl
                have dc1 := coc.cell 1 rfl
                have dc2 := coc.cell 2 rfl
                clear ndc coc
                go_wp2
                go_quiet (fail)
                go_wp2
                go_roundw
                case rel => exact ⟨i + 1, kn.n.nx, kn.n.lv, ao, n, cp, acc, rfl, rfl, rfl, by go_num, by omega, by omega, Lib.hid ⟨(HWAY.out.later H9.out).later (bdn _ _), (HB7.out.trans (H9.out.mono HB7.out.size)).trans ((bdn _ _).mono (HB7.out.trans (H9.out.mono HB7.out.size)).size), HNO.out.nx, HV.out.2.2.2.over HIM.out HKF.out (fun _ => rfl) HAS.out HON.out⟩⟩
                case measure => simp [intOf]; omega
              | true =>
                have HQ := HC2.out w8 H8.out
                rw [ho] at HQ
                have HQ2 := Lib.hid HQ
                have HON := Lib.hid ho
                clear HQ ho
                go_wp2_with fail
                refine HQ2.out.mono ?_
                rintro e w9 ⟨rfl, hb9⟩
                have H9 := Lib.hid (H8.out.trans (hb9.mono H8.out.size))
                clear pb0 pb1 pb2 pb3 pb4 pb5 pb6 pb7 db0 db1 db2
                clear hb9 HQ2
                have nk9 := HN6.out.below H9.out
                have r0 := nk9.cell 0 rfl
                have r1 := nk9.cell 1 rfl
                have r2 := nk9.cell 2 rfl
                have r3 := nk9.cell 3 rfl
                have r4 := nk9.cell 4 rfl
                have r5 := nk9.cell 5 rfl
                have r6 := nk9.cell 6 rfl
                have r7 := nk9.cell 7 rfl
                have r8 := nk9.cell 8 rfl
                have r9 := nk9.cell 9 rfl
                have r10 := nk9.cell 10 rfl
                clear nk9
                have HW9 := Lib.hid (HWAY.out.later H9.out)
                have hacc : n = acc.length := HW9.out.ks.len.1
                obtain ⟨ls, hls, hown⟩ := HW9.out
                rw [← hacc] at hown
                have hbA : Below w9.heap.size w9 (w9.alloc (.cells #[.int .i64 kn.c, .int .u64 kn.wd, .int .u64 kn.vr, .int .i64 kn.n.lv, .string kn.n.lo, .string kn.n.hi, .bool kn.n.la, .int .i64 kn.n.nx, .slice ak kn.n.ks.length ck, .slice av kn.n.vs.length cv, .slice ac kn.n.cs.length cc] 39)) := (Below.refl _ _).alloc (Nat.le_refl _) _
                have ho1 := fv_stays hown hbA
                have hnews := World.news_of_block (cs := #[.int .i64 kn.c, .int .u64 kn.wd, .int .u64 kn.vr, .int .i64 kn.n.lv, .string kn.n.lo, .string kn.n.hi, .bool kn.n.la, .int .i64 kn.n.nx, .slice ak kn.n.ks.length ck, .slice av kn.n.vs.length cv, .slice ac kn.n.cs.length cc]) (heap_alloc_new w9 (.cells #[.int .i64 kn.c, .int .u64 kn.wd, .int .u64 kn.vr, .int .i64 kn.n.lv, .string kn.n.lo, .string kn.n.hi, .bool kn.n.la, .int .i64 kn.n.nx, .slice ak kn.n.ks.length ck, .slice av kn.n.vs.length cv, .slice ac kn.n.cs.length cc] 39))
                have hKL : KL (PO w9 B) [.int .i64 kn.c, .int .u64 kn.wd, .int .u64 kn.vr, .int .i64 kn.n.lv, .string kn.n.lo, .string kn.n.hi, .bool kn.n.la, .int .i64 kn.n.nx, .slice ak kn.n.ks.length ck, .slice av kn.n.vs.length cv, .slice ac kn.n.cs.length cc] kn := ⟨ak, _, ck, av, _, cv, ac, _, cc, rfl, HPO.out.keep H9.out⟩
                have hone := hKL.ones
                have HH := Lib.hid (show _ ∧ _ ∧ _ ∧ _ from ⟨hls, ho1, hnews, hone⟩)
                have HBA := Lib.hid hbA
                have HACC := Lib.hid hacc
                have hb9s := HB7.out.trans (H9.out.mono HB7.out.size)
                have HS9 := Lib.hid (show W1.heap.size ≤ (w9.alloc (.cells #[.int .i64 kn.c, .int .u64 kn.wd, .int .u64 kn.vr, .int .i64 kn.n.lv, .string kn.n.lo, .string kn.n.hi, .bool kn.n.la, .int .i64 kn.n.nx, .slice ak kn.n.ks.length ck, .slice av kn.n.vs.length cv, .slice ac kn.n.cs.length cc] 39)).heap.size from Nat.le_trans hb9s.size hbA.size)
                have HB9 := Lib.hid (hb9s.trans (hbA.mono hb9s.size))
                have HPO9 := Lib.hid ((HPO.out.keep H9.out).keep hbA)
                have HN9 := Lib.hid ((HN7.out.below H9.out).below hbA)
                clear hown hbA ho1 hnews hone hls hKL hacc hb9s
                go_wp2_with ((with_reducible show wpList _ _ _ (⟨some 57, _, _, _, _, _⟩ :: _) _ _); refine wpList_append_own (o := ⟨some 57, _, _, _, _, _⟩) _ rfl _ _ 22 rfl W1.heap.size 39 i0 (.agg #[.int .i64 0, .int .u64 0, .int .u64 0, .int .i64 0, .string ⟨#[]⟩, .string ⟨#[]⟩, .bool false, .int .i64 0, .slice none 0 0, .slice none 0 0, .slice none 0 0]) 11 152 Tryz.underlying22 HI.out.1 HI.out.2.1 HI.out.2.2.1 HI.out.2.2.2 rfl (by decide) _ _ _ rfl HH.out.2.1 ⟨w9.heap.size, 0, none⟩ 1 1 [.int .i64 kn.c, .int .u64 kn.wd, .int .u64 kn.vr, .int .i64 kn.n.lv, .string kn.n.lo, .string kn.n.hi, .bool kn.n.la, .int .i64 kn.n.nx, .slice ak kn.n.ks.length ck, .slice av kn.n.vs.length cv, .slice ac kn.n.cs.length cc] rfl rfl HH.out.2.2.1 HH.out.2.2.2 (by unfold maxLen; omega) (by omega) HS9.out ?_)
                intro v2 w10 hown2 hgrow2 _
                have ht10 : Turn (fun j => (Value.slice ao n cp).ownBlock = some j) (w9.alloc (.cells #[.int .i64 kn.c, .int .u64 kn.wd, .int .u64 kn.vr, .int .i64 kn.n.lv, .string kn.n.lo, .string kn.n.hi, .bool kn.n.la, .int .i64 kn.n.nx, .slice ak kn.n.ks.length ck, .slice av kn.n.vs.length cv, .slice ac kn.n.cs.length cc] 39)) w10 := (Turn.refl _ _).grown hgrow2 (fun j hj => Or.inl hj)
                have hpo10 : PO w10 B (.slice ak kn.n.ks.length ck) (.slice av kn.n.vs.length cv) (.slice ac kn.n.cs.length cc) kn := KnO.turn (S := fun j => (Value.slice ao n cp).ownBlock = some j) HPO9.out (off_row HH.out.2.1) ht10
                have hway10 : KsR (PO w10 B) w10 W1.heap.size v2 (acc ++ [kn]) := KsR.add (HH.out.1.kl (fun _ _ _ _ hp => KnO.turn (S := fun j => (Value.slice ao n cp).ownBlock = some j) (hp.keep HBA.out) (off_row HH.out.2.1) ht10)) ⟨ak, _, ck, av, _, cv, ac, _, cc, rfl, hpo10⟩ (by rw [← HACC.out]; exact hown2)
                have hB10 : Below W1.heap.size W1 w10 := HB9.out.grown hgrow2 HS9.out (fun j hj => (fv_block HH.out.2.1 hj).1)
                have hnd10 : BX w10 (w5.heap.size + 1) 36 #[.int .i64 kn.n.lv, .string kn.n.lo, .string kn.n.hi, .bool kn.n.la, .int .i64 kn.n.nx, .slice ak kn.n.ks.length ck, .slice av kn.n.vs.length cv, .slice ac kn.n.cs.length cc] := (hgrow2.block _ (lt_of_block HN9.out) (fun e => by
                  obtain ⟨_, cs', e'⟩ := fv_block HH.out.2.1 e.symm
                  have e2 := HN9.out
                  unfold BX at e2
                  rw [e2] at e'
                  injection e' with e'
                  injection e' with _ e3 _
                  exact absurd e3 (by decide))).trans HN9.out
                have hco10 := HN1.out.below hB10
                obtain ⟨ao2, cp2, rfl⟩ := hway10.open
                obtain ⟨n2, hn2⟩ : ∃ n2, n2 = (acc ++ [kn]).length := ⟨_, rfl⟩
                rw [← hn2] at hway10 ⊢
                have hn2' : n2 ≤ i + 1 := by
                  have := HACC.out
                  rw [List.length_append, List.length_singleton] at hn2
                  omega
                have p0 := hnd10.cell 0 rfl
                have p1 := hnd10.cell 1 rfl
                have p2 := hnd10.cell 2 rfl
                have p3 := hnd10.cell 3 rfl
                have p4 := hnd10.cell 4 rfl
                have p5 := hnd10.cell 5 rfl
                have p6 := hnd10.cell 6 rfl
                have p7 := hnd10.cell 7 rfl
                have d0 := hco10.cell 0 rfl
                have d1 := hco10.cell 1 rfl
                have d2 := hco10.cell 2 rfl
                have HPO10 := Lib.hid hpo10
                have HWAY10 := Lib.hid hway10
                have HB10 := Lib.hid hB10
                have HND10 := Lib.hid hnd10
                clear hpo10 hway10 hB10 hnd10 hco10 ht10 hown2 hgrow2 hn2 HH HBA HS9 HB9 HPO9 HN9 HW9 r0 r1 r2 r3 r4 r5 r6 r7 r8 r9 r10
                by_cases hz : kn.n.lv = 0
                · have hz2 : ((kn.n.lv : Int) == 0) = true := by rw [beq_iff_eq]; exact hz
                  have HZ := Lib.hid hz
                  clear hz
                  go_wp2
                  try rw [Exit.noGoto_ret]
                  go_ret2
                  refine ⟨ao2, n2, cp2, true, kk, mm, rfl, HF1.out.keep HB10.out, Turn.of (S := VS A b sv) (HX.out.trans (HB10.out.mono HX.out.size)), fun hs => ?_⟩
                  unfold Ends
                  rw [HV.out.2.2.2.done HIM.out HKF.out (fun _ => rfl) HAS.out HON.out HZ.out hs]
                  exact ⟨rfl, rfl, rfl, HWAY10.out.base HSZ.out⟩
                · have hz2 : ((kn.n.lv : Int) == 0) = false := by rw [beq_eq_false_iff_ne]; exact hz
                  have HZ := Lib.hid hz
                  clear hz
                  have HQ3 := Lib.hid (HC3.out w10 HB10.out HPO10.out.nd)
                  go_wp2_with fail
                  refine HQ3.out.mono ?_
                  rintro e w11 ⟨x, bb, rfl, hx1, hx2, hb11⟩
                  have HX1 := Lib.hid hx1
                  have HX2 := Lib.hid hx2
                  have H11 := Lib.hid hb11
                  have HB11 := Lib.hid (HB10.out.trans (hb11.mono HB10.out.size))
                  clear hx1 hx2 HQ3 p0 p1 p2 p3 p4 p5 p6 p7 d0 d1 d2
                  have nd11 := HND10.out.below hb11
                  have p0 := nd11.cell 0 rfl
                  clear nd11 hb11
                  cases bb with
                  | false =>
                    have HEND := Lib.hid (fun hs => HV.out.2.2.2.nokid HIM.out HKF.out (fun _ => rfl) HAS.out HON.out HZ.out (fun hs => HX2.out hs HZ.out) hs)
                    go_wp2_with fail
                    refine (giveUp_fv _ (HF1.out.keep HB11.out)).mono ?_
                    rintro e w19 ⟨rfl, hf9, ht9⟩
                    have HF9 := Lib.hid hf9
                    have HT9 := Lib.hid (Turn.trans (Turn.of (S := VS A b sv) (HX.out.trans (HB11.out.mono HX.out.size))) ht9)
                    clear hf9 ht9
                    go_wp2
                    try rw [Exit.noGoto_ret]
                    go_ret2
                    refine ⟨none, 0, 0, false, _, _, rfl, HF9.out, HT9.out, fun hs => ?_⟩
                    unfold Ends
                    rw [HEND.out hs]
                    exact ⟨rfl, rfl, rfl, rfl⟩
                  | true =>
                    obtain ⟨z, hzz⟩ : ∃ z, IntKind.i64.wrap (kn.n.lv - 1) = z := ⟨_, rfl⟩
                    have HZZ := Lib.hid hzz
                    go_wp2
                    go_roundw
                    case rel => exact ⟨i + 1, x, z, ao2, n2, cp2, acc ++ [kn], rfl, rfl, by first | rfl | (rw [← HZZ.out]), by go_num, by omega, by omega, Lib.hid ⟨HWAY10.out.later H11.out, HB11.out, by obtain ⟨j, hj, rfl⟩ := HX1.out (by first | rfl | trivial); exact HNO.out.cs j hj, HV.out.2.2.2.kid HIM.out HKF.out (fun _ => rfl) HAS.out HON.out HZ.out (fun hs => HX2.out hs HZ.out) (fun h0 h1 => by rw [← HZZ.out, IntKind.wrap_i64]; omega)⟩⟩
                    case measure => simp [intOf]; omega
    · have HEND := Lib.hid (fun hs => HV.out.2.2.2.stop (by omega) hs)
      go_wp2_with fail
      refine (giveUp_fv _ HFR.out).mono ?_
      rintro e w19 ⟨rfl, hf9, ht9⟩
      have HF9 := Lib.hid hf9
      have HT9 := Lib.hid (Turn.trans (Turn.of (S := VS A b sv) (HX.out.trans (HV.out.2.1.mono HX.out.size))) ht9)
      clear hf9 ht9
      go_wp2
      try rw [Exit.noGoto_ret]
      go_ret2
      refine ⟨none, 0, 0, false, _, _, rfl, HF9.out, HT9.out, fun hs => ?_⟩
      unfold Ends
      rw [HEND.out hs]
      exact ⟨rfl, rfl, rfl, rfl⟩
end Go.Proofs.YtdbklklmpnlinaaGreat

namespace Go.Proofs.YtdbklklmpnlinaaGreat
open Go.RowKit Go.Maps

set_option maxHeartbeats 8000000 in
set_option maxRecDepth 100000 in
theorem down1 (A b B N : Nat) (sv : Value) (ks : List Kn) (ss : List (Int × Int)) (kk mm most : Int) (k : ByteArray) (gk : Nat) (w : World) (h : FV w B A b sv N ks ss kk mm) (hok : ∀ kn ∈ ks, NodOk kn.n) (hmost : most < 8192) (hgk : BX w gk 9 #[.string k]) (hk : k.size ≤ 140737488355328) :
    Calls Tryz.prog 46 #[.agg #[.func (.func 48) #[] #[.pointer (some ⟨gk, 0, none⟩)], .func (.func 49) #[] #[.pointer (some ⟨gk, 0, none⟩)], .func (.func 50) #[] #[.pointer (some ⟨gk, 0, none⟩)]], .pointer (some ⟨A, 0, none⟩), .int .i64 most] w fun e w' => DownSays 1 k ks most.toNat w w' B A b N sv ss kk mm e := by
  have hx := boxed_below w (.cells #[.func (.func 48) #[] #[.pointer (some ⟨gk, 0, none⟩)], .func (.func 49) #[] #[.pointer (some ⟨gk, 0, none⟩)], .func (.func 50) #[] #[.pointer (some ⟨gk, 0, none⟩)]] 79)
  have n1 := BX.new w 79 #[.func (.func 48) #[] #[.pointer (some ⟨gk, 0, none⟩)], .func (.func 49) #[] #[.pointer (some ⟨gk, 0, none⟩)], .func (.func 50) #[] #[.pointer (some ⟨gk, 0, none⟩)]]
  obtain ⟨W1, hW1⟩ : ∃ W, W = w.alloc (.cells #[.func (.func 48) #[] #[.pointer (some ⟨gk, 0, none⟩)], .func (.func 49) #[] #[.pointer (some ⟨gk, 0, none⟩)], .func (.func 50) #[] #[.pointer (some ⟨gk, 0, none⟩)]] 79) := ⟨_, rfl⟩
  rw [← hW1] at hx n1
  have HGK := Lib.hid (hgk.below hx)
  have HK := Lib.hid hk
  clear hgk hk
  have HF1 := Lib.hid (h.keep hx)
  have HX := Lib.hid hx
  have HN1 := Lib.hid n1
  have HW := Lib.hid hW1
  have HOK := Lib.hid hok
  have HSZ : Hid (w.heap.size ≤ W1.heap.size) := Lib.hid hx.size
  obtain ⟨i0, hi0, hz0, hz1, hz2⟩ := info_parts fvInfoKn
  have HI := Lib.hid (show _ ∧ _ ∧ _ ∧ _ from ⟨hi0, hz0, hz1, hz2⟩)
  clear hx n1 hW1 h hok hi0 hz0 hz1 hz2
  go_enter Tryz.func46, Tryz.ntmps46
  go_wp2
  go_step3
  rw [← HW.out]
  clear HW
  go_wp2
  go_step3
  go_wp2
  go_loopw [8, 9, 10, 17] (fun s8 s9 s10 s17 wr => ∃ (i : Nat) (c lv : Int) (ao : Option Addr) (n cp : Nat) (acc : List Kn), s8 = .slice ao n cp ∧ s9 = .int .i64 c ∧ s10 = .int .i64 lv ∧ s17 = .int .i64 i ∧ i ≤ most.toNat ∧ n ≤ i ∧ Hid (KsR (PO wr B) wr W1.heap.size (.slice ao n cp) acc ∧ Below W1.heap.size W1 wr ∧ (Lit.int .i64 c).wf = true ∧ Inv 1 k ks most.toNat i c lv acc)) (fun _ _ _ s _ => most.toNat - (intOf s).toNat)
  case atStart => exact ⟨0, 0, 0, none, 0, 0, [], rfl, rfl, rfl, rfl, Nat.zero_le _, Nat.le_refl _, Lib.hid ⟨KsR.nil _ _ _, Below.refl _ _, by decide, Inv.start 0⟩⟩
  case round =>
    obtain ⟨i, c, lv, ao, n, cp, acc, rfl, rfl, rfl, rfl, hi, hn, HV⟩ := hrel
    have HFR := Lib.hid (HF1.out.keep HV.out.2.1)
    by_cases hlt : (i : Int) < most
    · have HIM := Lib.hid (show i < most.toNat by omega)
      cases hk : kfind ks c with
      | none =>
        have HA := Lib.hid (at_miss c wr HV.out.2.2.1 HFR.out hk)
        have HKF := Lib.hid hk
        clear hk
        go_wp2_with fail
        refine HA.out.mono ?_
        rintro e w5 ⟨rfl, hf5, ht5⟩
        have HF5 := Lib.hid hf5
        have HT5 := Lib.hid ((Turn.of (S := VS A b sv) (HX.out.trans (HV.out.2.1.mono HX.out.size))).trans ht5)
        clear hf5 ht5
        go_wp2
        try rw [Exit.noGoto_ret]
        go_ret2
        refine ⟨none, 0, 0, false, _, _, rfl, HF5.out.keep (((Below.refl _ w5).alloc (Nat.le_refl _) _).alloc (by rw [World.size_alloc]; omega) _), HT5.out.trans (Turn.of (((Below.refl _ w5).alloc (Nat.le_refl _) _).alloc (by rw [World.size_alloc]; omega) _)), fun hs => ?_⟩
        unfold Ends
        rw [HV.out.2.2.2.miss HIM.out HKF.out hs]
        exact ⟨rfl, rfl, rfl, rfl⟩
      | some kn =>
        have HA := Lib.hid (at_hit c wr HV.out.2.2.1 HFR.out hk)
        have HKF := Lib.hid hk
        have HNO := Lib.hid (HOK.out kn (kfind_mem hk))
        clear hk
        go_wp2_with fail
        refine HA.out.mono ?_
        rintro e w5 ⟨⟨v, rfl, hv⟩, hf5, hb5⟩
        obtain ⟨ak, av, ac, ck, cv, cc, rfl, hpo, hnd⟩ := hv.vals
        have n6 := BX.new w5 39 #[.int .i64 kn.c, .int .u64 kn.wd, .int .u64 kn.vr, .int .i64 kn.n.lv, .string kn.n.lo, .string kn.n.hi, .bool kn.n.la, .int .i64 kn.n.nx, .slice ak kn.n.ks.length ck, .slice av kn.n.vs.length cv, .slice ac kn.n.cs.length cc]
        have hx6 := boxed_below w5 (.cells #[.int .i64 kn.c, .int .u64 kn.wd, .int .u64 kn.vr, .int .i64 kn.n.lv, .string kn.n.lo, .string kn.n.hi, .bool kn.n.la, .int .i64 kn.n.nx, .slice ak kn.n.ks.length ck, .slice av kn.n.vs.length cv, .slice ac kn.n.cs.length cc] 39)
        have n7 := BX.new (w5.alloc (.cells #[.int .i64 kn.c, .int .u64 kn.wd, .int .u64 kn.vr, .int .i64 kn.n.lv, .string kn.n.lo, .string kn.n.hi, .bool kn.n.la, .int .i64 kn.n.nx, .slice ak kn.n.ks.length ck, .slice av kn.n.vs.length cv, .slice ac kn.n.cs.length cc] 39)) 36 #[.int .i64 kn.n.lv, .string kn.n.lo, .string kn.n.hi, .bool kn.n.la, .int .i64 kn.n.nx, .slice ak kn.n.ks.length ck, .slice av kn.n.vs.length cv, .slice ac kn.n.cs.length cc]
        have hx7 := boxed_below (w5.alloc (.cells #[.int .i64 kn.c, .int .u64 kn.wd, .int .u64 kn.vr, .int .i64 kn.n.lv, .string kn.n.lo, .string kn.n.hi, .bool kn.n.la, .int .i64 kn.n.nx, .slice ak kn.n.ks.length ck, .slice av kn.n.vs.length cv, .slice ac kn.n.cs.length cc] 39)) (.cells #[.int .i64 kn.n.lv, .string kn.n.lo, .string kn.n.hi, .bool kn.n.la, .int .i64 kn.n.nx, .slice ak kn.n.ks.length ck, .slice av kn.n.vs.length cv, .slice ac kn.n.cs.length cc] 36)
        have hbx := hx6.trans (hx7.mono hx6.size)
        obtain ⟨W7, hW7⟩ : ∃ W, W = (w5.alloc (.cells #[.int .i64 kn.c, .int .u64 kn.wd, .int .u64 kn.vr, .int .i64 kn.n.lv, .string kn.n.lo, .string kn.n.hi, .bool kn.n.la, .int .i64 kn.n.nx, .slice ak kn.n.ks.length ck, .slice av kn.n.vs.length cv, .slice ac kn.n.cs.length cc] 39)).alloc (.cells #[.int .i64 kn.n.lv, .string kn.n.lo, .string kn.n.hi, .bool kn.n.la, .int .i64 kn.n.nx, .slice ak kn.n.ks.length ck, .slice av kn.n.vs.length cv, .slice ac kn.n.cs.length cc] 36) := ⟨_, rfl⟩
        have n67 := n6.below hx7
        rw [← hW7] at n7 n67 hbx
        rw [World.size_alloc] at n7
        have HB7 := Lib.hid ((HV.out.2.1.trans (hb5.mono HV.out.2.1.size)).trans (hbx.mono (HV.out.2.1.trans (hb5.mono HV.out.2.1.size)).size))
        have HN6 := Lib.hid n67
        have HN7 := Lib.hid n7
        have HPO := Lib.hid (hpo.keep hbx)
        have HWAY := Lib.hid ((HV.out.1.later hb5).later hbx)
        have HW7 := Lib.hid hW7
        have HR7 := Lib.hid (Below.refl W7.heap.size W7)
        have HG := Lib.hid (show w5.heap.size + 1 = w5.heap.size + 1 from rfl)
        clear hf5 hb5 hpo hnd hv n6 n7 n67 hx6 hx7 hbx hW7
        have hcase : (i = 0 ∨ (0 < i ∧ kn.n.lv = lv)) ∨ (0 < i ∧ kn.n.lv ≠ lv) := by omega
        rcases hcase with hcase | ⟨hi0, hl⟩
        rotate_left
        · have HEND := Lib.hid (fun hs => HV.out.2.2.2.level HIM.out HKF.out hi0 hl hs)
          have hi0' : (0 : Int) < i := by omega
          have hl2 : (kn.n.lv == lv) = false := beq_eq_false_iff_ne.2 hl
          have hl3 : ((kn.n.lv : Int) == lv) = false := hl2
          go_wp2_with fail
          rw [← HW7.out]
          refine (giveUp_fv _ (HF1.out.keep (HB7.out.trans (HR7.out.mono HB7.out.size)))).mono ?_
          rintro e w9 ⟨rfl, hf9, ht9⟩
          have HF9 := Lib.hid hf9
          have HT9 := Lib.hid (Turn.trans (Turn.of (S := VS A b sv) (HX.out.trans ((HB7.out.trans (HR7.out.mono HB7.out.size)).mono HX.out.size))) ht9)
          clear hf9 ht9
          go_wp2
          try rw [Exit.noGoto_ret]
          go_ret2
          refine ⟨none, 0, 0, false, _, _, rfl, HF9.out, HT9.out, fun hs => ?_⟩
          unfold Ends
          rw [HEND.out hs]
          exact ⟨rfl, rfl, rfl, rfl⟩
        · have HL := Lib.hid (show 0 < i → kn.n.lv = lv from fun h => by omega)
          have HC1 := Lib.hid (fun W (hb : Below W7.heap.size W7 W) => (show Calls _ _ _ W (fun e w' => e = .returned (.bool (astrayF 1 k kn.n)) ∧ Below W.heap.size W w') from below1_any kn.n.lv kn.n.nx kn.n.lo kn.n.hi kn.n.la ak av ac kn.n.ks.length ck kn.n.vs.length cv kn.n.cs.length cc gk k W ((HGK.out.below (HB7.out.trans (hb.mono HB7.out.size))).cell 0 rfl)))
          have HC2 := Lib.hid (fun W (hb : Below W7.heap.size W7 W) => (show Calls _ _ _ W (fun e w' => e = .returned (.bool (onF 1 k kn.n)) ∧ Below W.heap.size W w') from below2_any kn.n.lv kn.n.nx kn.n.lo kn.n.hi kn.n.la ak av ac kn.n.ks.length ck kn.n.vs.length cv kn.n.cs.length cc gk k W ((HGK.out.below (HB7.out.trans (hb.mono HB7.out.size))).cell 0 rfl) HNO.out.lo HNO.out.hi HK.out))
          have HC3 := Lib.hid (fun W (hb : Below W1.heap.size W1 W) hnd => (show Calls _ _ _ W (fun e w' => ∃ (x : Int) (bb : Bool), e = .returned (.tuple #[.int .i64 x, .bool bb]) ∧ (bb = true → ∃ j, j < kn.n.cs.length ∧ x = ni kn.n.cs j) ∧ (AllS ks → kn.n.lv ≠ 0 → kidOf 1 k kn.n = if bb then some x else none) ∧ Below W.heap.size W w') from (below3_any kn.n.lv kn.n.nx kn.n.lo kn.n.hi kn.n.la ak av ac kn.n.ks.length ck kn.n.vs.length cv kn.n.cs.length cc gk k W ((HGK.out.below hb).cell 0 rfl) kn.n.ks kn.n.vs kn.n.cs hnd HK.out HNO.out.ks (by have := HNO.out.n1; omega)).mono (fun e w' ⟨x, bb, he, h1, h2, h3⟩ => ⟨x, bb, he, h1, fun hs hz => kid_sound HKF.out hz h2 hs, h3⟩)))
          rcases hcase with hi0 | ⟨hi0, hl⟩
          · subst hi0
            cases ha : astrayF 1 k kn.n with
            | true =>
              have HEND := Lib.hid (fun hs => HV.out.2.2.2.astray HIM.out HKF.out ha hs)
              have HQ := HC1.out W7 HR7.out
              rw [ha] at HQ
              have HQ1 := Lib.hid HQ
              clear HQ ha
              have nda := HN7.out.below HR7.out
              have coa := HN1.out.below (HB7.out.trans (HR7.out.mono HB7.out.size))
              have pa0 := nda.cell 0 rfl
              have pa1 := nda.cell 1 rfl
              have pa2 := nda.cell 2 rfl
              have pa3 := nda.cell 3 rfl
              have pa4 := nda.cell 4 rfl
              have pa5 := nda.cell 5 rfl
              have pa6 := nda.cell 6 rfl
              have pa7 := nda.cell 7 rfl
              have da0 := coa.cell 0 rfl
              have da1 := coa.cell 1 rfl
              have da2 := coa.cell 2 rfl
              clear nda coa
              rw [HW7.out] at da0 da1 da2
              go_wp2_with fail
              rw [← HW7.out]
              refine HQ1.out.mono ?_
              rintro e w8 ⟨rfl, hb8⟩
              have H8 := Lib.hid hb8
              clear pa0 pa1 pa2 pa3 pa4 pa5 pa6 pa7 da0 da1 da2
              clear hb8
              go_wp2_with fail
              refine (giveUp_fv _ (HF1.out.keep (HB7.out.trans (H8.out.mono HB7.out.size)))).mono ?_
              rintro e w9 ⟨rfl, hf9, ht9⟩
              have HF9 := Lib.hid hf9
              have HT9 := Lib.hid (Turn.trans (Turn.of (S := VS A b sv) (HX.out.trans ((HB7.out.trans (H8.out.mono HB7.out.size)).mono HX.out.size))) ht9)
              clear hf9 ht9
              go_wp2
              try rw [Exit.noGoto_ret]
              go_ret2
              refine ⟨none, 0, 0, false, _, _, rfl, HF9.out, HT9.out, fun hs => ?_⟩
              unfold Ends
              rw [HEND.out hs]
              exact ⟨rfl, rfl, rfl, rfl⟩
            | false =>
              have HQ := HC1.out W7 HR7.out
              rw [ha] at HQ
              have HQ1 := Lib.hid HQ
              have HAS := Lib.hid ha
              clear HQ ha
              have nda := HN7.out.below HR7.out
              have coa := HN1.out.below (HB7.out.trans (HR7.out.mono HB7.out.size))
              have pa0 := nda.cell 0 rfl
              have pa1 := nda.cell 1 rfl
              have pa2 := nda.cell 2 rfl
              have pa3 := nda.cell 3 rfl
              have pa4 := nda.cell 4 rfl
              have pa5 := nda.cell 5 rfl
              have pa6 := nda.cell 6 rfl
              have pa7 := nda.cell 7 rfl
              have da0 := coa.cell 0 rfl
              have da1 := coa.cell 1 rfl
              have da2 := coa.cell 2 rfl
              clear nda coa
              rw [HW7.out] at da0 da1 da2
              go_wp2_with fail
              rw [← HW7.out]
              refine HQ1.out.mono ?_
              rintro e w8 ⟨rfl, hb8⟩
              have H8 := Lib.hid hb8
              clear pa0 pa1 pa2 pa3 pa4 pa5 pa6 pa7 da0 da1 da2
              clear hb8 HQ1
              have ndb := HN7.out.below H8.out
              have cob := HN1.out.below (HB7.out.trans (H8.out.mono HB7.out.size))
              have pb0 := ndb.cell 0 rfl
              have pb1 := ndb.cell 1 rfl
              have pb2 := ndb.cell 2 rfl
              have pb3 := ndb.cell 3 rfl
              have pb4 := ndb.cell 4 rfl
              have pb5 := ndb.cell 5 rfl
              have pb6 := ndb.cell 6 rfl
              have pb7 := ndb.cell 7 rfl
              have db0 := cob.cell 0 rfl
              have db1 := cob.cell 1 rfl
              have db2 := cob.cell 2 rfl
              clear ndb cob
              cases ho : onF 1 k kn.n with
              | false =>
                have HQ := HC2.out w8 H8.out
                rw [ho] at HQ
                have HQ2 := Lib.hid HQ
                have HON := Lib.hid ho
                clear HQ ho
                go_wp2_with fail
                refine HQ2.out.mono ?_
                rintro e w9 ⟨rfl, hb9⟩
                have H9 := Lib.hid (H8.out.trans (hb9.mono H8.out.size))
                clear pb0 pb1 pb2 pb3 pb4 pb5 pb6 pb7 db0 db1 db2
                clear hb9 HQ2
                have ndc := HN7.out.below H9.out
                have coc := HN1.out.below (HB7.out.trans (H9.out.mono HB7.out.size))
                have pc0 := ndc.cell 0 rfl
                have pc1 := ndc.cell 1 rfl
                have pc2 := ndc.cell 2 rfl
                have pc3 := ndc.cell 3 rfl
                have pc4 := ndc.cell 4 rfl
                have pc5 := ndc.cell 5 rfl
                have pc6 := ndc.cell 6 rfl
                have pc7 := ndc.cell 7 rfl
                have dc0 := coc.cell 0 rfl
                have dc1 := coc.cell 1 rfl
                have dc2 := coc.cell 2 rfl
                clear ndc coc
                go_wp2
                go_quiet (fail)
                go_wp2
                go_roundw
                case rel => exact ⟨0 + 1, kn.n.nx, kn.n.lv, ao, n, cp, acc, rfl, rfl, rfl, by go_num, by omega, by omega, Lib.hid ⟨(HWAY.out.later H9.out).later (bdn _ _), (HB7.out.trans (H9.out.mono HB7.out.size)).trans ((bdn _ _).mono (HB7.out.trans (H9.out.mono HB7.out.size)).size), HNO.out.nx, HV.out.2.2.2.over HIM.out HKF.out (fun h => absurd h (Nat.lt_irrefl _)) HAS.out HON.out⟩⟩
                case measure => simp [intOf]; omega
              | true =>
                have HQ := HC2.out w8 H8.out
                rw [ho] at HQ
                have HQ2 := Lib.hid HQ
                have HON := Lib.hid ho
                clear HQ ho
                go_wp2_with fail
                refine HQ2.out.mono ?_
                rintro e w9 ⟨rfl, hb9⟩
                have H9 := Lib.hid (H8.out.trans (hb9.mono H8.out.size))
                clear pb0 pb1 pb2 pb3 pb4 pb5 pb6 pb7 db0 db1 db2
                clear hb9 HQ2
                have nk9 := HN6.out.below H9.out
                have r0 := nk9.cell 0 rfl
                have r1 := nk9.cell 1 rfl
                have r2 := nk9.cell 2 rfl
                have r3 := nk9.cell 3 rfl
                have r4 := nk9.cell 4 rfl
                have r5 := nk9.cell 5 rfl
                have r6 := nk9.cell 6 rfl
                have r7 := nk9.cell 7 rfl
                have r8 := nk9.cell 8 rfl
                have r9 := nk9.cell 9 rfl
                have r10 := nk9.cell 10 rfl
                clear nk9
                have HW9 := Lib.hid (HWAY.out.later H9.out)
                have hacc : n = acc.length := HW9.out.ks.len.1
                obtain ⟨ls, hls, hown⟩ := HW9.out
                rw [← hacc] at hown
                have hbA : Below w9.heap.size w9 (w9.alloc (.cells #[.int .i64 kn.c, .int .u64 kn.wd, .int .u64 kn.vr, .int .i64 kn.n.lv, .string kn.n.lo, .string kn.n.hi, .bool kn.n.la, .int .i64 kn.n.nx, .slice ak kn.n.ks.length ck, .slice av kn.n.vs.length cv, .slice ac kn.n.cs.length cc] 39)) := (Below.refl _ _).alloc (Nat.le_refl _) _
                have ho1 := fv_stays hown hbA
                have hnews := World.news_of_block (cs := #[.int .i64 kn.c, .int .u64 kn.wd, .int .u64 kn.vr, .int .i64 kn.n.lv, .string kn.n.lo, .string kn.n.hi, .bool kn.n.la, .int .i64 kn.n.nx, .slice ak kn.n.ks.length ck, .slice av kn.n.vs.length cv, .slice ac kn.n.cs.length cc]) (heap_alloc_new w9 (.cells #[.int .i64 kn.c, .int .u64 kn.wd, .int .u64 kn.vr, .int .i64 kn.n.lv, .string kn.n.lo, .string kn.n.hi, .bool kn.n.la, .int .i64 kn.n.nx, .slice ak kn.n.ks.length ck, .slice av kn.n.vs.length cv, .slice ac kn.n.cs.length cc] 39))
                have hKL : KL (PO w9 B) [.int .i64 kn.c, .int .u64 kn.wd, .int .u64 kn.vr, .int .i64 kn.n.lv, .string kn.n.lo, .string kn.n.hi, .bool kn.n.la, .int .i64 kn.n.nx, .slice ak kn.n.ks.length ck, .slice av kn.n.vs.length cv, .slice ac kn.n.cs.length cc] kn := ⟨ak, _, ck, av, _, cv, ac, _, cc, rfl, HPO.out.keep H9.out⟩
                have hone := hKL.ones
                have HH := Lib.hid (show _ ∧ _ ∧ _ ∧ _ from ⟨hls, ho1, hnews, hone⟩)
                have HBA := Lib.hid hbA
                have HACC := Lib.hid hacc
                have hb9s := HB7.out.trans (H9.out.mono HB7.out.size)
                have HS9 := Lib.hid (show W1.heap.size ≤ (w9.alloc (.cells #[.int .i64 kn.c, .int .u64 kn.wd, .int .u64 kn.vr, .int .i64 kn.n.lv, .string kn.n.lo, .string kn.n.hi, .bool kn.n.la, .int .i64 kn.n.nx, .slice ak kn.n.ks.length ck, .slice av kn.n.vs.length cv, .slice ac kn.n.cs.length cc] 39)).heap.size from Nat.le_trans hb9s.size hbA.size)
                have HB9 := Lib.hid (hb9s.trans (hbA.mono hb9s.size))
                have HPO9 := Lib.hid ((HPO.out.keep H9.out).keep hbA)
                have HN9 := Lib.hid ((HN7.out.below H9.out).below hbA)
                clear hown hbA ho1 hnews hone hls hKL hacc hb9s
                go_wp2_with ((with_reducible show wpList _ _ _ (⟨some 57, _, _, _, _, _⟩ :: _) _ _); refine wpList_append_own (o := ⟨some 57, _, _, _, _, _⟩) _ rfl _ _ 22 rfl W1.heap.size 39 i0 (.agg #[.int .i64 0, .int .u64 0, .int .u64 0, .int .i64 0, .string ⟨#[]⟩, .string ⟨#[]⟩, .bool false, .int .i64 0, .slice none 0 0, .slice none 0 0, .slice none 0 0]) 11 152 Tryz.underlying22 HI.out.1 HI.out.2.1 HI.out.2.2.1 HI.out.2.2.2 rfl (by decide) _ _ _ rfl HH.out.2.1 ⟨w9.heap.size, 0, none⟩ 1 1 [.int .i64 kn.c, .int .u64 kn.wd, .int .u64 kn.vr, .int .i64 kn.n.lv, .string kn.n.lo, .string kn.n.hi, .bool kn.n.la, .int .i64 kn.n.nx, .slice ak kn.n.ks.length ck, .slice av kn.n.vs.length cv, .slice ac kn.n.cs.length cc] rfl rfl HH.out.2.2.1 HH.out.2.2.2 (by unfold maxLen; omega) (by omega) HS9.out ?_)
                intro v2 w10 hown2 hgrow2 _
                have ht10 : Turn (fun j => (Value.slice ao n cp).ownBlock = some j) (w9.alloc (.cells #[.int .i64 kn.c, .int .u64 kn.wd, .int .u64 kn.vr, .int .i64 kn.n.lv, .string kn.n.lo, .string kn.n.hi, .bool kn.n.la, .int .i64 kn.n.nx, .slice ak kn.n.ks.length ck, .slice av kn.n.vs.length cv, .slice ac kn.n.cs.length cc] 39)) w10 := (Turn.refl _ _).grown hgrow2 (fun j hj => Or.inl hj)
                have hpo10 : PO w10 B (.slice ak kn.n.ks.length ck) (.slice av kn.n.vs.length cv) (.slice ac kn.n.cs.length cc) kn := KnO.turn (S := fun j => (Value.slice ao n cp).ownBlock = some j) HPO9.out (off_row HH.out.2.1) ht10
                have hway10 : KsR (PO w10 B) w10 W1.heap.size v2 (acc ++ [kn]) := KsR.add (HH.out.1.kl (fun _ _ _ _ hp => KnO.turn (S := fun j => (Value.slice ao n cp).ownBlock = some j) (hp.keep HBA.out) (off_row HH.out.2.1) ht10)) ⟨ak, _, ck, av, _, cv, ac, _, cc, rfl, hpo10⟩ (by rw [← HACC.out]; exact hown2)
                have hB10 : Below W1.heap.size W1 w10 := HB9.out.grown hgrow2 HS9.out (fun j hj => (fv_block HH.out.2.1 hj).1)
                have hnd10 : BX w10 (w5.heap.size + 1) 36 #[.int .i64 kn.n.lv, .string kn.n.lo, .string kn.n.hi, .bool kn.n.la, .int .i64 kn.n.nx, .slice ak kn.n.ks.length ck, .slice av kn.n.vs.length cv, .slice ac kn.n.cs.length cc] := (hgrow2.block _ (lt_of_block HN9.out) (fun e => by
                  obtain ⟨_, cs', e'⟩ := fv_block HH.out.2.1 e.symm
                  have e2 := HN9.out
                  unfold BX at e2
                  rw [e2] at e'
                  injection e' with e'
                  injection e' with _ e3 _
                  exact absurd e3 (by decide))).trans HN9.out
                have hco10 := HN1.out.below hB10
                obtain ⟨ao2, cp2, rfl⟩ := hway10.open
                obtain ⟨n2, hn2⟩ : ∃ n2, n2 = (acc ++ [kn]).length := ⟨_, rfl⟩
                rw [← hn2] at hway10 ⊢
                have hn2' : n2 ≤ 0 + 1 := by
                  have := HACC.out
                  rw [List.length_append, List.length_singleton] at hn2
                  omega
                have p0 := hnd10.cell 0 rfl
                have p1 := hnd10.cell 1 rfl
                have p2 := hnd10.cell 2 rfl
                have p3 := hnd10.cell 3 rfl
                have p4 := hnd10.cell 4 rfl
                have p5 := hnd10.cell 5 rfl
                have p6 := hnd10.cell 6 rfl
                have p7 := hnd10.cell 7 rfl
                have d0 := hco10.cell 0 rfl
                have d1 := hco10.cell 1 rfl
                have d2 := hco10.cell 2 rfl
                have HPO10 := Lib.hid hpo10
                have HWAY10 := Lib.hid hway10
                have HB10 := Lib.hid hB10
                have HND10 := Lib.hid hnd10
                clear hpo10 hway10 hB10 hnd10 hco10 ht10 hown2 hgrow2 hn2 HH HBA HS9 HB9 HPO9 HN9 HW9 r0 r1 r2 r3 r4 r5 r6 r7 r8 r9 r10
                by_cases hz : kn.n.lv = 0
                · have hz2 : ((kn.n.lv : Int) == 0) = true := by rw [beq_iff_eq]; exact hz
                  have HZ := Lib.hid hz
                  clear hz
                  go_wp2
                  try rw [Exit.noGoto_ret]
                  go_ret2
                  refine ⟨ao2, n2, cp2, true, kk, mm, rfl, HF1.out.keep HB10.out, Turn.of (S := VS A b sv) (HX.out.trans (HB10.out.mono HX.out.size)), fun hs => ?_⟩
                  unfold Ends
                  rw [HV.out.2.2.2.done HIM.out HKF.out (fun h => absurd h (Nat.lt_irrefl _)) HAS.out HON.out HZ.out hs]
                  exact ⟨rfl, rfl, rfl, HWAY10.out.base HSZ.out⟩
                · have hz2 : ((kn.n.lv : Int) == 0) = false := by rw [beq_eq_false_iff_ne]; exact hz
                  have HZ := Lib.hid hz
                  clear hz
                  have HQ3 := Lib.hid (HC3.out w10 HB10.out HPO10.out.nd)
                  go_wp2_with fail
                  refine HQ3.out.mono ?_
                  rintro e w11 ⟨x, bb, rfl, hx1, hx2, hb11⟩
                  have HX1 := Lib.hid hx1
                  have HX2 := Lib.hid hx2
                  have H11 := Lib.hid hb11
                  have HB11 := Lib.hid (HB10.out.trans (hb11.mono HB10.out.size))
                  clear hx1 hx2 HQ3 p0 p1 p2 p3 p4 p5 p6 p7 d0 d1 d2
                  have nd11 := HND10.out.below hb11
                  have p0 := nd11.cell 0 rfl
                  clear nd11 hb11
                  cases bb with
                  | false =>
                    have HEND := Lib.hid (fun hs => HV.out.2.2.2.nokid HIM.out HKF.out (fun h => absurd h (Nat.lt_irrefl _)) HAS.out HON.out HZ.out (fun hs => HX2.out hs HZ.out) hs)
                    go_wp2_with fail
                    refine (giveUp_fv _ (HF1.out.keep HB11.out)).mono ?_
                    rintro e w19 ⟨rfl, hf9, ht9⟩
                    have HF9 := Lib.hid hf9
                    have HT9 := Lib.hid (Turn.trans (Turn.of (S := VS A b sv) (HX.out.trans (HB11.out.mono HX.out.size))) ht9)
                    clear hf9 ht9
                    go_wp2
                    try rw [Exit.noGoto_ret]
                    go_ret2
                    refine ⟨none, 0, 0, false, _, _, rfl, HF9.out, HT9.out, fun hs => ?_⟩
                    unfold Ends
                    rw [HEND.out hs]
                    exact ⟨rfl, rfl, rfl, rfl⟩
                  | true =>
                    obtain ⟨z, hzz⟩ : ∃ z, IntKind.i64.wrap (kn.n.lv - 1) = z := ⟨_, rfl⟩
                    have HZZ := Lib.hid hzz
                    go_wp2
                    go_roundw
                    case rel => exact ⟨0 + 1, x, z, ao2, n2, cp2, acc ++ [kn], rfl, rfl, by first | rfl | (rw [← HZZ.out]), by go_num, by omega, by omega, Lib.hid ⟨HWAY10.out.later H11.out, HB11.out, by obtain ⟨j, hj, rfl⟩ := HX1.out (by first | rfl | trivial); exact HNO.out.cs j hj, HV.out.2.2.2.kid HIM.out HKF.out (fun h => absurd h (Nat.lt_irrefl _)) HAS.out HON.out HZ.out (fun hs => HX2.out hs HZ.out) (fun h0 h1 => by rw [← HZZ.out, IntKind.wrap_i64]; omega)⟩⟩
                    case measure => simp [intOf]; omega
          · subst hl
            have hi0' : (0 : Int) < i := by omega
            cases ha : astrayF 1 k kn.n with
            | true =>
              have HEND := Lib.hid (fun hs => HV.out.2.2.2.astray HIM.out HKF.out ha hs)
              have HQ := HC1.out W7 HR7.out
              rw [ha] at HQ
              have HQ1 := Lib.hid HQ
              clear HQ ha
              have nda := HN7.out.below HR7.out
              have coa := HN1.out.below (HB7.out.trans (HR7.out.mono HB7.out.size))
              have pa0 := nda.cell 0 rfl
              have pa1 := nda.cell 1 rfl
              have pa2 := nda.cell 2 rfl
              have pa3 := nda.cell 3 rfl
              have pa4 := nda.cell 4 rfl
              have pa5 := nda.cell 5 rfl
              have pa6 := nda.cell 6 rfl
              have pa7 := nda.cell 7 rfl
              have da0 := coa.cell 0 rfl
              have da1 := coa.cell 1 rfl
              have da2 := coa.cell 2 rfl
              clear nda coa
              rw [HW7.out] at da0 da1 da2
              go_wp2_with fail
              rw [← HW7.out]
              refine HQ1.out.mono ?_
              rintro e w8 ⟨rfl, hb8⟩
              have H8 := Lib.hid hb8
              clear pa0 pa1 pa2 pa3 pa4 pa5 pa6 pa7 da0 da1 da2
              clear hb8
              go_wp2_with fail
              refine (giveUp_fv _ (HF1.out.keep (HB7.out.trans (H8.out.mono HB7.out.size)))).mono ?_
              rintro e w9 ⟨rfl, hf9, ht9⟩
              have HF9 := Lib.hid hf9
              have HT9 := Lib.hid (Turn.trans (Turn.of (S := VS A b sv) (HX.out.trans ((HB7.out.trans (H8.out.mono HB7.out.size)).mono HX.out.size))) ht9)
              clear hf9 ht9
              go_wp2
              try rw [Exit.noGoto_ret]
              go_ret2
              refine ⟨none, 0, 0, false, _, _, rfl, HF9.out, HT9.out, fun hs => ?_⟩
              unfold Ends
              rw [HEND.out hs]
              exact ⟨rfl, rfl, rfl, rfl⟩
            | false =>
              have HQ := HC1.out W7 HR7.out
              rw [ha] at HQ
              have HQ1 := Lib.hid HQ
              have HAS := Lib.hid ha
              clear HQ ha
              have nda := HN7.out.below HR7.out
              have coa := HN1.out.below (HB7.out.trans (HR7.out.mono HB7.out.size))
              have pa0 := nda.cell 0 rfl
              have pa1 := nda.cell 1 rfl
              have pa2 := nda.cell 2 rfl
              have pa3 := nda.cell 3 rfl
              have pa4 := nda.cell 4 rfl
              have pa5 := nda.cell 5 rfl
              have pa6 := nda.cell 6 rfl
              have pa7 := nda.cell 7 rfl
              have da0 := coa.cell 0 rfl
              have da1 := coa.cell 1 rfl
              have da2 := coa.cell 2 rfl
              clear nda coa
              rw [HW7.out] at da0 da1 da2
              go_wp2_with fail
              rw [← HW7.out]
              refine HQ1.out.mono ?_
              rintro e w8 ⟨rfl, hb8⟩
              have H8 := Lib.hid hb8
              clear pa0 pa1 pa2 pa3 pa4 pa5 pa6 pa7 da0 da1 da2
              clear hb8 HQ1
              have ndb := HN7.out.below H8.out
              have cob := HN1.out.below (HB7.out.trans (H8.out.mono HB7.out.size))
              have pb0 := ndb.cell 0 rfl
              have pb1 := ndb.cell 1 rfl
              have pb2 := ndb.cell 2 rfl
              have pb3 := ndb.cell 3 rfl
              have pb4 := ndb.cell 4 rfl
              have pb5 := ndb.cell 5 rfl
              have pb6 := ndb.cell 6 rfl
              have pb7 := ndb.cell 7 rfl
              have db0 := cob.cell 0 rfl
              have db1 := cob.cell 1 rfl
              have db2 := cob.cell 2 rfl
              clear ndb cob
              cases ho : onF 1 k kn.n with
              | false =>
                have HQ := HC2.out w8 H8.out
                rw [ho] at HQ
                have HQ2 := Lib.hid HQ
                have HON := Lib.hid ho
                clear HQ ho
                go_wp2_with fail
                refine HQ2.out.mono ?_
                rintro e w9 ⟨rfl, hb9⟩
                have H9 := Lib.hid (H8.out.trans (hb9.mono H8.out.size))
                clear pb0 pb1 pb2 pb3 pb4 pb5 pb6 pb7 db0 db1 db2
                clear hb9 HQ2
                have ndc := HN7.out.below H9.out
                have coc := HN1.out.below (HB7.out.trans (H9.out.mono HB7.out.size))
                have pc0 := ndc.cell 0 rfl
                have pc1 := ndc.cell 1 rfl
                have pc2 := ndc.cell 2 rfl
                have pc3 := ndc.cell 3 rfl
                have pc4 := ndc.cell 4 rfl
                have pc5 := ndc.cell 5 rfl
                have pc6 := ndc.cell 6 rfl
                have pc7 := ndc.cell 7 rfl
                have dc0 := coc.cell 0 rfl
                have dc1 := coc.cell 1 rfl
                have dc2 := coc.cell 2 rfl
                clear ndc coc
                go_wp2
                go_quiet (fail)
                go_wp2
                go_roundw
                case rel => exact ⟨i + 1, kn.n.nx, kn.n.lv, ao, n, cp, acc, rfl, rfl, rfl, by go_num, by omega, by omega, Lib.hid ⟨(HWAY.out.later H9.out).later (bdn _ _), (HB7.out.trans (H9.out.mono HB7.out.size)).trans ((bdn _ _).mono (HB7.out.trans (H9.out.mono HB7.out.size)).size), HNO.out.nx, HV.out.2.2.2.over HIM.out HKF.out (fun _ => rfl) HAS.out HON.out⟩⟩
                case measure => simp [intOf]; omega
              | true =>
                have HQ := HC2.out w8 H8.out
                rw [ho] at HQ
                have HQ2 := Lib.hid HQ
                have HON := Lib.hid ho
                clear HQ ho
                go_wp2_with fail
                refine HQ2.out.mono ?_
                rintro e w9 ⟨rfl, hb9⟩
                have H9 := Lib.hid (H8.out.trans (hb9.mono H8.out.size))
                clear pb0 pb1 pb2 pb3 pb4 pb5 pb6 pb7 db0 db1 db2
                clear hb9 HQ2
                have nk9 := HN6.out.below H9.out
                have r0 := nk9.cell 0 rfl
                have r1 := nk9.cell 1 rfl
                have r2 := nk9.cell 2 rfl
                have r3 := nk9.cell 3 rfl
                have r4 := nk9.cell 4 rfl
                have r5 := nk9.cell 5 rfl
                have r6 := nk9.cell 6 rfl
                have r7 := nk9.cell 7 rfl
                have r8 := nk9.cell 8 rfl
                have r9 := nk9.cell 9 rfl
                have r10 := nk9.cell 10 rfl
                clear nk9
                have HW9 := Lib.hid (HWAY.out.later H9.out)
                have hacc : n = acc.length := HW9.out.ks.len.1
                obtain ⟨ls, hls, hown⟩ := HW9.out
                rw [← hacc] at hown
                have hbA : Below w9.heap.size w9 (w9.alloc (.cells #[.int .i64 kn.c, .int .u64 kn.wd, .int .u64 kn.vr, .int .i64 kn.n.lv, .string kn.n.lo, .string kn.n.hi, .bool kn.n.la, .int .i64 kn.n.nx, .slice ak kn.n.ks.length ck, .slice av kn.n.vs.length cv, .slice ac kn.n.cs.length cc] 39)) := (Below.refl _ _).alloc (Nat.le_refl _) _
                have ho1 := fv_stays hown hbA
                have hnews := World.news_of_block (cs := #[.int .i64 kn.c, .int .u64 kn.wd, .int .u64 kn.vr, .int .i64 kn.n.lv, .string kn.n.lo, .string kn.n.hi, .bool kn.n.la, .int .i64 kn.n.nx, .slice ak kn.n.ks.length ck, .slice av kn.n.vs.length cv, .slice ac kn.n.cs.length cc]) (heap_alloc_new w9 (.cells #[.int .i64 kn.c, .int .u64 kn.wd, .int .u64 kn.vr, .int .i64 kn.n.lv, .string kn.n.lo, .string kn.n.hi, .bool kn.n.la, .int .i64 kn.n.nx, .slice ak kn.n.ks.length ck, .slice av kn.n.vs.length cv, .slice ac kn.n.cs.length cc] 39))
                have hKL : KL (PO w9 B) [.int .i64 kn.c, .int .u64 kn.wd, .int .u64 kn.vr, .int .i64 kn.n.lv, .string kn.n.lo, .string kn.n.hi, .bool kn.n.la, .int .i64 kn.n.nx, .slice ak kn.n.ks.length ck, .slice av kn.n.vs.length cv, .slice ac kn.n.cs.length cc] kn := ⟨ak, _, ck, av, _, cv, ac, _, cc, rfl, HPO.out.keep H9.out⟩
                have hone := hKL.ones
                have HH := Lib.hid (show _ ∧ _ ∧ _ ∧ _ from ⟨hls, ho1, hnews, hone⟩)
                have HBA := Lib.hid hbA
                have HACC := Lib.hid hacc
                have hb9s := HB7.out.trans (H9.out.mono HB7.out.size)
                have HS9 := Lib.hid (show W1.heap.size ≤ (w9.alloc (.cells #[.int .i64 kn.c, .int .u64 kn.wd, .int .u64 kn.vr, .int .i64 kn.n.lv, .string kn.n.lo, .string kn.n.hi, .bool kn.n.la, .int .i64 kn.n.nx, .slice ak kn.n.ks.length ck, .slice av kn.n.vs.length cv, .slice ac kn.n.cs.length cc] 39)).heap.size from Nat.le_trans hb9s.size hbA.size)
                have HB9 := Lib.hid (hb9s.trans (hbA.mono hb9s.size))
                have HPO9 := Lib.hid ((HPO.out.keep H9.out).keep hbA)
                have HN9 := Lib.hid ((HN7.out.below H9.out).below hbA)
                clear hown hbA ho1 hnews hone hls hKL hacc hb9s
                go_wp2_with ((with_reducible show wpList _ _ _ (⟨some 57, _, _, _, _, _⟩ :: _) _ _); refine wpList_append_own (o := ⟨some 57, _, _, _, _, _⟩) _ rfl _ _ 22 rfl W1.heap.size 39 i0 (.agg #[.int .i64 0, .int .u64 0, .int .u64 0, .int .i64 0, .string ⟨#[]⟩, .string ⟨#[]⟩, .bool false, .int .i64 0, .slice none 0 0, .slice none 0 0, .slice none 0 0]) 11 152 Tryz.underlying22 HI.out.1 HI.out.2.1 HI.out.2.2.1 HI.out.2.2.2 rfl (by decide) _ _ _ rfl HH.out.2.1 ⟨w9.heap.size, 0, none⟩ 1 1 [.int .i64 kn.c, .int .u64 kn.wd, .int .u64 kn.vr, .int .i64 kn.n.lv, .string kn.n.lo, .string kn.n.hi, .bool kn.n.la, .int .i64 kn.n.nx, .slice ak kn.n.ks.length ck, .slice av kn.n.vs.length cv, .slice ac kn.n.cs.length cc] rfl rfl HH.out.2.2.1 HH.out.2.2.2 (by unfold maxLen; omega) (by omega) HS9.out ?_)
                intro v2 w10 hown2 hgrow2 _
                have ht10 : Turn (fun j => (Value.slice ao n cp).ownBlock = some j) (w9.alloc (.cells #[.int .i64 kn.c, .int .u64 kn.wd, .int .u64 kn.vr, .int .i64 kn.n.lv, .string kn.n.lo, .string kn.n.hi, .bool kn.n.la, .int .i64 kn.n.nx, .slice ak kn.n.ks.length ck, .slice av kn.n.vs.length cv, .slice ac kn.n.cs.length cc] 39)) w10 := (Turn.refl _ _).grown hgrow2 (fun j hj => Or.inl hj)
                have hpo10 : PO w10 B (.slice ak kn.n.ks.length ck) (.slice av kn.n.vs.length cv) (.slice ac kn.n.cs.length cc) kn := KnO.turn (S := fun j => (Value.slice ao n cp).ownBlock = some j) HPO9.out (off_row HH.out.2.1) ht10
                have hway10 : KsR (PO w10 B) w10 W1.heap.size v2 (acc ++ [kn]) := KsR.add (HH.out.1.kl (fun _ _ _ _ hp => KnO.turn (S := fun j => (Value.slice ao n cp).ownBlock = some j) (hp.keep HBA.out) (off_row HH.out.2.1) ht10)) ⟨ak, _, ck, av, _, cv, ac, _, cc, rfl, hpo10⟩ (by rw [← HACC.out]; exact hown2)
                have hB10 : Below W1.heap.size W1 w10 := HB9.out.grown hgrow2 HS9.out (fun j hj => (fv_block HH.out.2.1 hj).1)
                have hnd10 : BX w10 (w5.heap.size + 1) 36 #[.int .i64 kn.n.lv, .string kn.n.lo, .string kn.n.hi, .bool kn.n.la, .int .i64 kn.n.nx, .slice ak kn.n.ks.length ck, .slice av kn.n.vs.length cv, .slice ac kn.n.cs.length cc] := (hgrow2.block _ (lt_of_block HN9.out) (fun e => by
                  obtain ⟨_, cs', e'⟩ := fv_block HH.out.2.1 e.symm
                  have e2 := HN9.out
                  unfold BX at e2
                  rw [e2] at e'
                  injection e' with e'
                  injection e' with _ e3 _
                  exact absurd e3 (by decide))).trans HN9.out
                have hco10 := HN1.out.below hB10
                obtain ⟨ao2, cp2, rfl⟩ := hway10.open
                obtain ⟨n2, hn2⟩ : ∃ n2, n2 = (acc ++ [kn]).length := ⟨_, rfl⟩
                rw [← hn2] at hway10 ⊢
                have hn2' : n2 ≤ i + 1 := by
                  have := HACC.out
                  rw [List.length_append, List.length_singleton] at hn2
                  omega
                have p0 := hnd10.cell 0 rfl
                have p1 := hnd10.cell 1 rfl
                have p2 := hnd10.cell 2 rfl
                have p3 := hnd10.cell 3 rfl
                have p4 := hnd10.cell 4 rfl
                have p5 := hnd10.cell 5 rfl
                have p6 := hnd10.cell 6 rfl
                have p7 := hnd10.cell 7 rfl
                have d0 := hco10.cell 0 rfl
                have d1 := hco10.cell 1 rfl
                have d2 := hco10.cell 2 rfl
                have HPO10 := Lib.hid hpo10
                have HWAY10 := Lib.hid hway10
                have HB10 := Lib.hid hB10
                have HND10 := Lib.hid hnd10
                clear hpo10 hway10 hB10 hnd10 hco10 ht10 hown2 hgrow2 hn2 HH HBA HS9 HB9 HPO9 HN9 HW9 r0 r1 r2 r3 r4 r5 r6 r7 r8 r9 r10
                by_cases hz : kn.n.lv = 0
                · have hz2 : ((kn.n.lv : Int) == 0) = true := by rw [beq_iff_eq]; exact hz
                  have HZ := Lib.hid hz
                  clear hz
                  go_wp2
                  try rw [Exit.noGoto_ret]
                  go_ret2
                  refine ⟨ao2, n2, cp2, true, kk, mm, rfl, HF1.out.keep HB10.out, Turn.of (S := VS A b sv) (HX.out.trans (HB10.out.mono HX.out.size)), fun hs => ?_⟩
                  unfold Ends
                  rw [HV.out.2.2.2.done HIM.out HKF.out (fun _ => rfl) HAS.out HON.out HZ.out hs]
                  exact ⟨rfl, rfl, rfl, HWAY10.out.base HSZ.out⟩
                · have hz2 : ((kn.n.lv : Int) == 0) = false := by rw [beq_eq_false_iff_ne]; exact hz
                  have HZ := Lib.hid hz
                  clear hz
                  have HQ3 := Lib.hid (HC3.out w10 HB10.out HPO10.out.nd)
                  go_wp2_with fail
                  refine HQ3.out.mono ?_
                  rintro e w11 ⟨x, bb, rfl, hx1, hx2, hb11⟩
                  have HX1 := Lib.hid hx1
                  have HX2 := Lib.hid hx2
                  have H11 := Lib.hid hb11
                  have HB11 := Lib.hid (HB10.out.trans (hb11.mono HB10.out.size))
                  clear hx1 hx2 HQ3 p0 p1 p2 p3 p4 p5 p6 p7 d0 d1 d2
                  have nd11 := HND10.out.below hb11
                  have p0 := nd11.cell 0 rfl
                  clear nd11 hb11
                  cases bb with
                  | false =>
                    have HEND := Lib.hid (fun hs => HV.out.2.2.2.nokid HIM.out HKF.out (fun _ => rfl) HAS.out HON.out HZ.out (fun hs => HX2.out hs HZ.out) hs)
                    go_wp2_with fail
                    refine (giveUp_fv _ (HF1.out.keep HB11.out)).mono ?_
                    rintro e w19 ⟨rfl, hf9, ht9⟩
                    have HF9 := Lib.hid hf9
                    have HT9 := Lib.hid (Turn.trans (Turn.of (S := VS A b sv) (HX.out.trans (HB11.out.mono HX.out.size))) ht9)
                    clear hf9 ht9
                    go_wp2
                    try rw [Exit.noGoto_ret]
                    go_ret2
                    refine ⟨none, 0, 0, false, _, _, rfl, HF9.out, HT9.out, fun hs => ?_⟩
                    unfold Ends
                    rw [HEND.out hs]
                    exact ⟨rfl, rfl, rfl, rfl⟩
                  | true =>
                    obtain ⟨z, hzz⟩ : ∃ z, IntKind.i64.wrap (kn.n.lv - 1) = z := ⟨_, rfl⟩
                    have HZZ := Lib.hid hzz
                    go_wp2
                    go_roundw
                    case rel => exact ⟨i + 1, x, z, ao2, n2, cp2, acc ++ [kn], rfl, rfl, by first | rfl | (rw [← HZZ.out]), by go_num, by omega, by omega, Lib.hid ⟨HWAY10.out.later H11.out, HB11.out, by obtain ⟨j, hj, rfl⟩ := HX1.out (by first | rfl | trivial); exact HNO.out.cs j hj, HV.out.2.2.2.kid HIM.out HKF.out (fun _ => rfl) HAS.out HON.out HZ.out (fun hs => HX2.out hs HZ.out) (fun h0 h1 => by rw [← HZZ.out, IntKind.wrap_i64]; omega)⟩⟩
                    case measure => simp [intOf]; omega
    · have HEND := Lib.hid (fun hs => HV.out.2.2.2.stop (by omega) hs)
      go_wp2_with fail
      refine (giveUp_fv _ HFR.out).mono ?_
      rintro e w19 ⟨rfl, hf9, ht9⟩
      have HF9 := Lib.hid hf9
      have HT9 := Lib.hid (Turn.trans (Turn.of (S := VS A b sv) (HX.out.trans (HV.out.2.1.mono HX.out.size))) ht9)
      clear hf9 ht9
      go_wp2
      try rw [Exit.noGoto_ret]
      go_ret2
      refine ⟨none, 0, 0, false, _, _, rfl, HF9.out, HT9.out, fun hs => ?_⟩
      unfold Ends
      rw [HEND.out hs]
      exact ⟨rfl, rfl, rfl, rfl⟩
end Go.Proofs.YtdbklklmpnlinaaGreat

namespace Go.Proofs.YtdbklklmpnlinaaGreat
open Go.RowKit Go.Maps

set_option maxHeartbeats 8000000 in
set_option maxRecDepth 100000 in
theorem down2 (A b B N : Nat) (sv : Value) (ks : List Kn) (ss : List (Int × Int)) (kk mm most : Int) (k : ByteArray) (w : World) (h : FV w B A b sv N ks ss kk mm) (hok : ∀ kn ∈ ks, NodOk kn.n) (hmost : most < 8192) :
    Calls Tryz.prog 46 #[.agg #[.func (.func 52) #[] #[], .func (.func 53) #[] #[], .func (.func 54) #[] #[]], .pointer (some ⟨A, 0, none⟩), .int .i64 most] w fun e w' => DownSays 2 k ks most.toNat w w' B A b N sv ss kk mm e := by
  have hx := boxed_below w (.cells #[.func (.func 52) #[] #[], .func (.func 53) #[] #[], .func (.func 54) #[] #[]] 79)
  have n1 := BX.new w 79 #[.func (.func 52) #[] #[], .func (.func 53) #[] #[], .func (.func 54) #[] #[]]
  obtain ⟨W1, hW1⟩ : ∃ W, W = w.alloc (.cells #[.func (.func 52) #[] #[], .func (.func 53) #[] #[], .func (.func 54) #[] #[]] 79) := ⟨_, rfl⟩
  rw [← hW1] at hx n1
  have HF1 := Lib.hid (h.keep hx)
  have HX := Lib.hid hx
  have HN1 := Lib.hid n1
  have HW := Lib.hid hW1
  have HOK := Lib.hid hok
  have HSZ : Hid (w.heap.size ≤ W1.heap.size) := Lib.hid hx.size
  obtain ⟨i0, hi0, hz0, hz1, hz2⟩ := info_parts fvInfoKn
  have HI := Lib.hid (show _ ∧ _ ∧ _ ∧ _ from ⟨hi0, hz0, hz1, hz2⟩)
  clear hx n1 hW1 h hok hi0 hz0 hz1 hz2
  go_enter Tryz.func46, Tryz.ntmps46
  go_wp2
  go_step3
  rw [← HW.out]
  clear HW
  go_wp2
  go_step3
  go_wp2
  go_loopw [8, 9, 10, 17] (fun s8 s9 s10 s17 wr => ∃ (i : Nat) (c lv : Int) (ao : Option Addr) (n cp : Nat) (acc : List Kn), s8 = .slice ao n cp ∧ s9 = .int .i64 c ∧ s10 = .int .i64 lv ∧ s17 = .int .i64 i ∧ i ≤ most.toNat ∧ n ≤ i ∧ Hid (KsR (PO wr B) wr W1.heap.size (.slice ao n cp) acc ∧ Below W1.heap.size W1 wr ∧ (Lit.int .i64 c).wf = true ∧ Inv 2 k ks most.toNat i c lv acc)) (fun _ _ _ s _ => most.toNat - (intOf s).toNat)
  case atStart => exact ⟨0, 0, 0, none, 0, 0, [], rfl, rfl, rfl, rfl, Nat.zero_le _, Nat.le_refl _, Lib.hid ⟨KsR.nil _ _ _, Below.refl _ _, by decide, Inv.start 0⟩⟩
  case round =>
    obtain ⟨i, c, lv, ao, n, cp, acc, rfl, rfl, rfl, rfl, hi, hn, HV⟩ := hrel
    have HFR := Lib.hid (HF1.out.keep HV.out.2.1)
    by_cases hlt : (i : Int) < most
    · have HIM := Lib.hid (show i < most.toNat by omega)
      cases hk : kfind ks c with
      | none =>
        have HA := Lib.hid (at_miss c wr HV.out.2.2.1 HFR.out hk)
        have HKF := Lib.hid hk
        clear hk
        go_wp2_with fail
        refine HA.out.mono ?_
        rintro e w5 ⟨rfl, hf5, ht5⟩
        have HF5 := Lib.hid hf5
        have HT5 := Lib.hid ((Turn.of (S := VS A b sv) (HX.out.trans (HV.out.2.1.mono HX.out.size))).trans ht5)
        clear hf5 ht5
        go_wp2
        try rw [Exit.noGoto_ret]
        go_ret2
        refine ⟨none, 0, 0, false, _, _, rfl, HF5.out.keep (((Below.refl _ w5).alloc (Nat.le_refl _) _).alloc (by rw [World.size_alloc]; omega) _), HT5.out.trans (Turn.of (((Below.refl _ w5).alloc (Nat.le_refl _) _).alloc (by rw [World.size_alloc]; omega) _)), fun hs => ?_⟩
        unfold Ends
        rw [HV.out.2.2.2.miss HIM.out HKF.out hs]
        exact ⟨rfl, rfl, rfl, rfl⟩
      | some kn =>
        have HA := Lib.hid (at_hit c wr HV.out.2.2.1 HFR.out hk)
        have HKF := Lib.hid hk
        have HNO := Lib.hid (HOK.out kn (kfind_mem hk))
        clear hk
        go_wp2_with fail
        refine HA.out.mono ?_
        rintro e w5 ⟨⟨v, rfl, hv⟩, hf5, hb5⟩
        obtain ⟨ak, av, ac, ck, cv, cc, rfl, hpo, hnd⟩ := hv.vals
        have n6 := BX.new w5 39 #[.int .i64 kn.c, .int .u64 kn.wd, .int .u64 kn.vr, .int .i64 kn.n.lv, .string kn.n.lo, .string kn.n.hi, .bool kn.n.la, .int .i64 kn.n.nx, .slice ak kn.n.ks.length ck, .slice av kn.n.vs.length cv, .slice ac kn.n.cs.length cc]
        have hx6 := boxed_below w5 (.cells #[.int .i64 kn.c, .int .u64 kn.wd, .int .u64 kn.vr, .int .i64 kn.n.lv, .string kn.n.lo, .string kn.n.hi, .bool kn.n.la, .int .i64 kn.n.nx, .slice ak kn.n.ks.length ck, .slice av kn.n.vs.length cv, .slice ac kn.n.cs.length cc] 39)
        have n7 := BX.new (w5.alloc (.cells #[.int .i64 kn.c, .int .u64 kn.wd, .int .u64 kn.vr, .int .i64 kn.n.lv, .string kn.n.lo, .string kn.n.hi, .bool kn.n.la, .int .i64 kn.n.nx, .slice ak kn.n.ks.length ck, .slice av kn.n.vs.length cv, .slice ac kn.n.cs.length cc] 39)) 36 #[.int .i64 kn.n.lv, .string kn.n.lo, .string kn.n.hi, .bool kn.n.la, .int .i64 kn.n.nx, .slice ak kn.n.ks.length ck, .slice av kn.n.vs.length cv, .slice ac kn.n.cs.length cc]
        have hx7 := boxed_below (w5.alloc (.cells #[.int .i64 kn.c, .int .u64 kn.wd, .int .u64 kn.vr, .int .i64 kn.n.lv, .string kn.n.lo, .string kn.n.hi, .bool kn.n.la, .int .i64 kn.n.nx, .slice ak kn.n.ks.length ck, .slice av kn.n.vs.length cv, .slice ac kn.n.cs.length cc] 39)) (.cells #[.int .i64 kn.n.lv, .string kn.n.lo, .string kn.n.hi, .bool kn.n.la, .int .i64 kn.n.nx, .slice ak kn.n.ks.length ck, .slice av kn.n.vs.length cv, .slice ac kn.n.cs.length cc] 36)
        have hbx := hx6.trans (hx7.mono hx6.size)
        obtain ⟨W7, hW7⟩ : ∃ W, W = (w5.alloc (.cells #[.int .i64 kn.c, .int .u64 kn.wd, .int .u64 kn.vr, .int .i64 kn.n.lv, .string kn.n.lo, .string kn.n.hi, .bool kn.n.la, .int .i64 kn.n.nx, .slice ak kn.n.ks.length ck, .slice av kn.n.vs.length cv, .slice ac kn.n.cs.length cc] 39)).alloc (.cells #[.int .i64 kn.n.lv, .string kn.n.lo, .string kn.n.hi, .bool kn.n.la, .int .i64 kn.n.nx, .slice ak kn.n.ks.length ck, .slice av kn.n.vs.length cv, .slice ac kn.n.cs.length cc] 36) := ⟨_, rfl⟩
        have n67 := n6.below hx7
        rw [← hW7] at n7 n67 hbx
        rw [World.size_alloc] at n7
        have HB7 := Lib.hid ((HV.out.2.1.trans (hb5.mono HV.out.2.1.size)).trans (hbx.mono (HV.out.2.1.trans (hb5.mono HV.out.2.1.size)).size))
        have HN6 := Lib.hid n67
        have HN7 := Lib.hid n7
        have HPO := Lib.hid (hpo.keep hbx)
        have HWAY := Lib.hid ((HV.out.1.later hb5).later hbx)
        have HW7 := Lib.hid hW7
        have HR7 := Lib.hid (Below.refl W7.heap.size W7)
        have HG := Lib.hid (show w5.heap.size + 1 = w5.heap.size + 1 from rfl)
        clear hf5 hb5 hpo hnd hv n6 n7 n67 hx6 hx7 hbx hW7
        have hcase : (i = 0 ∨ (0 < i ∧ kn.n.lv = lv)) ∨ (0 < i ∧ kn.n.lv ≠ lv) := by omega
        rcases hcase with hcase | ⟨hi0, hl⟩
        rotate_left
        · have HEND := Lib.hid (fun hs => HV.out.2.2.2.level HIM.out HKF.out hi0 hl hs)
          have hi0' : (0 : Int) < i := by omega
          have hl2 : (kn.n.lv == lv) = false := beq_eq_false_iff_ne.2 hl
          have hl3 : ((kn.n.lv : Int) == lv) = false := hl2
          go_wp2_with fail
          rw [← HW7.out]
          refine (giveUp_fv _ (HF1.out.keep (HB7.out.trans (HR7.out.mono HB7.out.size)))).mono ?_
          rintro e w9 ⟨rfl, hf9, ht9⟩
          have HF9 := Lib.hid hf9
          have HT9 := Lib.hid (Turn.trans (Turn.of (S := VS A b sv) (HX.out.trans ((HB7.out.trans (HR7.out.mono HB7.out.size)).mono HX.out.size))) ht9)
          clear hf9 ht9
          go_wp2
          try rw [Exit.noGoto_ret]
          go_ret2
          refine ⟨none, 0, 0, false, _, _, rfl, HF9.out, HT9.out, fun hs => ?_⟩
          unfold Ends
          rw [HEND.out hs]
          exact ⟨rfl, rfl, rfl, rfl⟩
        · have HL := Lib.hid (show 0 < i → kn.n.lv = lv from fun h => by omega)
          have HC1 := Lib.hid (fun W (hb : Below W7.heap.size W7 W) => (show Calls _ _ _ W (fun e w' => e = .returned (.bool (astrayF 2 k kn.n)) ∧ Below W.heap.size W w') from end1_any kn.n.lv kn.n.nx kn.n.lo kn.n.hi kn.n.la ak av ac kn.n.ks.length ck kn.n.vs.length cv kn.n.cs.length cc W))
          have HC2 := Lib.hid (fun W (hb : Below W7.heap.size W7 W) => (show Calls _ _ _ W (fun e w' => e = .returned (.bool (onF 2 k kn.n)) ∧ Below W.heap.size W w') from end2_any kn.n.lv kn.n.nx kn.n.lo kn.n.hi kn.n.la ak av ac kn.n.ks.length ck kn.n.vs.length cv kn.n.cs.length cc W))
          have HC3 := Lib.hid (fun W (hb : Below W1.heap.size W1 W) hnd => (show Calls _ _ _ W (fun e w' => ∃ (x : Int) (bb : Bool), e = .returned (.tuple #[.int .i64 x, .bool bb]) ∧ (bb = true → ∃ j, j < kn.n.cs.length ∧ x = ni kn.n.cs j) ∧ (AllS ks → kn.n.lv ≠ 0 → kidOf 2 k kn.n = if bb then some x else none) ∧ Below W.heap.size W w') from (lastKid_any kn.n.lv kn.n.nx kn.n.lo kn.n.hi kn.n.la ak av ac kn.n.ks.length ck kn.n.vs.length cv kn.n.cs.length cc kn.n.ks kn.n.vs kn.n.cs W hnd).mono (fun e w' ⟨x, bb, he, h2, h3⟩ => ⟨x, bb, he, fun hb => last_at (by rw [h2, hb]; rfl), fun _ _ => h2, h3⟩)))
          rcases hcase with hi0 | ⟨hi0, hl⟩
          · subst hi0
            cases ha : astrayF 2 k kn.n with
            | true =>
              have HEND := Lib.hid (fun hs => HV.out.2.2.2.astray HIM.out HKF.out ha hs)
              have HQ := HC1.out W7 HR7.out
              rw [ha] at HQ
              have HQ1 := Lib.hid HQ
              clear HQ ha
              have nda := HN7.out.below HR7.out
              have coa := HN1.out.below (HB7.out.trans (HR7.out.mono HB7.out.size))
              have pa0 := nda.cell 0 rfl
              have pa1 := nda.cell 1 rfl
              have pa2 := nda.cell 2 rfl
              have pa3 := nda.cell 3 rfl
              have pa4 := nda.cell 4 rfl
              have pa5 := nda.cell 5 rfl
              have pa6 := nda.cell 6 rfl
              have pa7 := nda.cell 7 rfl
              have da0 := coa.cell 0 rfl
              have da1 := coa.cell 1 rfl
              have da2 := coa.cell 2 rfl
              clear nda coa
              rw [HW7.out] at da0 da1 da2
              go_wp2_with fail
              rw [← HW7.out]
              refine HQ1.out.mono ?_
              rintro e w8 ⟨rfl, hb8⟩
              have H8 := Lib.hid hb8
              clear pa0 pa1 pa2 pa3 pa4 pa5 pa6 pa7 da0 da1 da2
              clear hb8
              go_wp2_with fail
              refine (giveUp_fv _ (HF1.out.keep (HB7.out.trans (H8.out.mono HB7.out.size)))).mono ?_
              rintro e w9 ⟨rfl, hf9, ht9⟩
              have HF9 := Lib.hid hf9
              have HT9 := Lib.hid (Turn.trans (Turn.of (S := VS A b sv) (HX.out.trans ((HB7.out.trans (H8.out.mono HB7.out.size)).mono HX.out.size))) ht9)
              clear hf9 ht9
              go_wp2
              try rw [Exit.noGoto_ret]
              go_ret2
              refine ⟨none, 0, 0, false, _, _, rfl, HF9.out, HT9.out, fun hs => ?_⟩
              unfold Ends
              rw [HEND.out hs]
              exact ⟨rfl, rfl, rfl, rfl⟩
            | false =>
              have HQ := HC1.out W7 HR7.out
              rw [ha] at HQ
              have HQ1 := Lib.hid HQ
              have HAS := Lib.hid ha
              clear HQ ha
              have nda := HN7.out.below HR7.out
              have coa := HN1.out.below (HB7.out.trans (HR7.out.mono HB7.out.size))
              have pa0 := nda.cell 0 rfl
              have pa1 := nda.cell 1 rfl
              have pa2 := nda.cell 2 rfl
              have pa3 := nda.cell 3 rfl
              have pa4 := nda.cell 4 rfl
              have pa5 := nda.cell 5 rfl
              have pa6 := nda.cell 6 rfl
              have pa7 := nda.cell 7 rfl
              have da0 := coa.cell 0 rfl
              have da1 := coa.cell 1 rfl
              have da2 := coa.cell 2 rfl
              clear nda coa
              rw [HW7.out] at da0 da1 da2
              go_wp2_with fail
              rw [← HW7.out]
              refine HQ1.out.mono ?_
              rintro e w8 ⟨rfl, hb8⟩
              have H8 := Lib.hid hb8
              clear pa0 pa1 pa2 pa3 pa4 pa5 pa6 pa7 da0 da1 da2
              clear hb8 HQ1
              have ndb := HN7.out.below H8.out
              have cob := HN1.out.below (HB7.out.trans (H8.out.mono HB7.out.size))
              have pb0 := ndb.cell 0 rfl
              have pb1 := ndb.cell 1 rfl
              have pb2 := ndb.cell 2 rfl
              have pb3 := ndb.cell 3 rfl
              have pb4 := ndb.cell 4 rfl
              have pb5 := ndb.cell 5 rfl
              have pb6 := ndb.cell 6 rfl
              have pb7 := ndb.cell 7 rfl
              have db0 := cob.cell 0 rfl
              have db1 := cob.cell 1 rfl
              have db2 := cob.cell 2 rfl
              clear ndb cob
              cases ho : onF 2 k kn.n with
              | false =>
                have HQ := HC2.out w8 H8.out
                rw [ho] at HQ
                have HQ2 := Lib.hid HQ
                have HON := Lib.hid ho
                clear HQ ho
                go_wp2_with fail
                refine HQ2.out.mono ?_
                rintro e w9 ⟨rfl, hb9⟩
                have H9 := Lib.hid (H8.out.trans (hb9.mono H8.out.size))
                clear pb0 pb1 pb2 pb3 pb4 pb5 pb6 pb7 db0 db1 db2
                clear hb9 HQ2
                have ndc := HN7.out.below H9.out
                have coc := HN1.out.below (HB7.out.trans (H9.out.mono HB7.out.size))
                have pc0 := ndc.cell 0 rfl
                have pc1 := ndc.cell 1 rfl
                have pc2 := ndc.cell 2 rfl
                have pc3 := ndc.cell 3 rfl
                have pc4 := ndc.cell 4 rfl
                have pc5 := ndc.cell 5 rfl
                have pc6 := ndc.cell 6 rfl
                have pc7 := ndc.cell 7 rfl
                have dc0 := coc.cell 0 rfl
                have dc1 := coc.cell 1 rfl
                have dc2 := coc.cell 2 rfl
                clear ndc coc
                go_wp2
                go_quiet (fail)
                go_wp2
                go_roundw
                case rel => exact ⟨0 + 1, kn.n.nx, kn.n.lv, ao, n, cp, acc, rfl, rfl, rfl, by go_num, by omega, by omega, Lib.hid ⟨(HWAY.out.later H9.out).later (bdn _ _), (HB7.out.trans (H9.out.mono HB7.out.size)).trans ((bdn _ _).mono (HB7.out.trans (H9.out.mono HB7.out.size)).size), HNO.out.nx, HV.out.2.2.2.over HIM.out HKF.out (fun h => absurd h (Nat.lt_irrefl _)) HAS.out HON.out⟩⟩
                case measure => simp [intOf]; omega
              | true =>
                have HQ := HC2.out w8 H8.out
                rw [ho] at HQ
                have HQ2 := Lib.hid HQ
                have HON := Lib.hid ho
                clear HQ ho
                go_wp2_with fail
                refine HQ2.out.mono ?_
                rintro e w9 ⟨rfl, hb9⟩
                have H9 := Lib.hid (H8.out.trans (hb9.mono H8.out.size))
                clear pb0 pb1 pb2 pb3 pb4 pb5 pb6 pb7 db0 db1 db2
                clear hb9 HQ2
                have nk9 := HN6.out.below H9.out
                have r0 := nk9.cell 0 rfl
                have r1 := nk9.cell 1 rfl
                have r2 := nk9.cell 2 rfl
                have r3 := nk9.cell 3 rfl
                have r4 := nk9.cell 4 rfl
                have r5 := nk9.cell 5 rfl
                have r6 := nk9.cell 6 rfl
                have r7 := nk9.cell 7 rfl
                have r8 := nk9.cell 8 rfl
                have r9 := nk9.cell 9 rfl
                have r10 := nk9.cell 10 rfl
                clear nk9
                have HW9 := Lib.hid (HWAY.out.later H9.out)
                have hacc : n = acc.length := HW9.out.ks.len.1
                obtain ⟨ls, hls, hown⟩ := HW9.out
                rw [← hacc] at hown
                have hbA : Below w9.heap.size w9 (w9.alloc (.cells #[.int .i64 kn.c, .int .u64 kn.wd, .int .u64 kn.vr, .int .i64 kn.n.lv, .string kn.n.lo, .string kn.n.hi, .bool kn.n.la, .int .i64 kn.n.nx, .slice ak kn.n.ks.length ck, .slice av kn.n.vs.length cv, .slice ac kn.n.cs.length cc] 39)) := (Below.refl _ _).alloc (Nat.le_refl _) _
                have ho1 := fv_stays hown hbA
                have hnews := World.news_of_block (cs := #[.int .i64 kn.c, .int .u64 kn.wd, .int .u64 kn.vr, .int .i64 kn.n.lv, .string kn.n.lo, .string kn.n.hi, .bool kn.n.la, .int .i64 kn.n.nx, .slice ak kn.n.ks.length ck, .slice av kn.n.vs.length cv, .slice ac kn.n.cs.length cc]) (heap_alloc_new w9 (.cells #[.int .i64 kn.c, .int .u64 kn.wd, .int .u64 kn.vr, .int .i64 kn.n.lv, .string kn.n.lo, .string kn.n.hi, .bool kn.n.la, .int .i64 kn.n.nx, .slice ak kn.n.ks.length ck, .slice av kn.n.vs.length cv, .slice ac kn.n.cs.length cc] 39))
                have hKL : KL (PO w9 B) [.int .i64 kn.c, .int .u64 kn.wd, .int .u64 kn.vr, .int .i64 kn.n.lv, .string kn.n.lo, .string kn.n.hi, .bool kn.n.la, .int .i64 kn.n.nx, .slice ak kn.n.ks.length ck, .slice av kn.n.vs.length cv, .slice ac kn.n.cs.length cc] kn := ⟨ak, _, ck, av, _, cv, ac, _, cc, rfl, HPO.out.keep H9.out⟩
                have hone := hKL.ones
                have HH := Lib.hid (show _ ∧ _ ∧ _ ∧ _ from ⟨hls, ho1, hnews, hone⟩)
                have HBA := Lib.hid hbA
                have HACC := Lib.hid hacc
                have hb9s := HB7.out.trans (H9.out.mono HB7.out.size)
                have HS9 := Lib.hid (show W1.heap.size ≤ (w9.alloc (.cells #[.int .i64 kn.c, .int .u64 kn.wd, .int .u64 kn.vr, .int .i64 kn.n.lv, .string kn.n.lo, .string kn.n.hi, .bool kn.n.la, .int .i64 kn.n.nx, .slice ak kn.n.ks.length ck, .slice av kn.n.vs.length cv, .slice ac kn.n.cs.length cc] 39)).heap.size from Nat.le_trans hb9s.size hbA.size)
                have HB9 := Lib.hid (hb9s.trans (hbA.mono hb9s.size))
                have HPO9 := Lib.hid ((HPO.out.keep H9.out).keep hbA)
                have HN9 := Lib.hid ((HN7.out.below H9.out).below hbA)
                clear hown hbA ho1 hnews hone hls hKL hacc hb9s
                go_wp2_with ((with_reducible show wpList _ _ _ (⟨some 57, _, _, _, _, _⟩ :: _) _ _); refine wpList_append_own (o := ⟨some 57, _, _, _, _, _⟩) _ rfl _ _ 22 rfl W1.heap.size 39 i0 (.agg #[.int .i64 0, .int .u64 0, .int .u64 0, .int .i64 0, .string ⟨#[]⟩, .string ⟨#[]⟩, .bool false, .int .i64 0, .slice none 0 0, .slice none 0 0, .slice none 0 0]) 11 152 Tryz.underlying22 HI.out.1 HI.out.2.1 HI.out.2.2.1 HI.out.2.2.2 rfl (by decide) _ _ _ rfl HH.out.2.1 ⟨w9.heap.size, 0, none⟩ 1 1 [.int .i64 kn.c, .int .u64 kn.wd, .int .u64 kn.vr, .int .i64 kn.n.lv, .string kn.n.lo, .string kn.n.hi, .bool kn.n.la, .int .i64 kn.n.nx, .slice ak kn.n.ks.length ck, .slice av kn.n.vs.length cv, .slice ac kn.n.cs.length cc] rfl rfl HH.out.2.2.1 HH.out.2.2.2 (by unfold maxLen; omega) (by omega) HS9.out ?_)
                intro v2 w10 hown2 hgrow2 _
                have ht10 : Turn (fun j => (Value.slice ao n cp).ownBlock = some j) (w9.alloc (.cells #[.int .i64 kn.c, .int .u64 kn.wd, .int .u64 kn.vr, .int .i64 kn.n.lv, .string kn.n.lo, .string kn.n.hi, .bool kn.n.la, .int .i64 kn.n.nx, .slice ak kn.n.ks.length ck, .slice av kn.n.vs.length cv, .slice ac kn.n.cs.length cc] 39)) w10 := (Turn.refl _ _).grown hgrow2 (fun j hj => Or.inl hj)
                have hpo10 : PO w10 B (.slice ak kn.n.ks.length ck) (.slice av kn.n.vs.length cv) (.slice ac kn.n.cs.length cc) kn := KnO.turn (S := fun j => (Value.slice ao n cp).ownBlock = some j) HPO9.out (off_row HH.out.2.1) ht10
                have hway10 : KsR (PO w10 B) w10 W1.heap.size v2 (acc ++ [kn]) := KsR.add (HH.out.1.kl (fun _ _ _ _ hp => KnO.turn (S := fun j => (Value.slice ao n cp).ownBlock = some j) (hp.keep HBA.out) (off_row HH.out.2.1) ht10)) ⟨ak, _, ck, av, _, cv, ac, _, cc, rfl, hpo10⟩ (by rw [← HACC.out]; exact hown2)
                have hB10 : Below W1.heap.size W1 w10 := HB9.out.grown hgrow2 HS9.out (fun j hj => (fv_block HH.out.2.1 hj).1)
                have hnd10 : BX w10 (w5.heap.size + 1) 36 #[.int .i64 kn.n.lv, .string kn.n.lo, .string kn.n.hi, .bool kn.n.la, .int .i64 kn.n.nx, .slice ak kn.n.ks.length ck, .slice av kn.n.vs.length cv, .slice ac kn.n.cs.length cc] := (hgrow2.block _ (lt_of_block HN9.out) (fun e => by
                  obtain ⟨_, cs', e'⟩ := fv_block HH.out.2.1 e.symm
                  have e2 := HN9.out
                  unfold BX at e2
                  rw [e2] at e'
                  injection e' with e'
                  injection e' with _ e3 _
                  exact absurd e3 (by decide))).trans HN9.out
                have hco10 := HN1.out.below hB10
                obtain ⟨ao2, cp2, rfl⟩ := hway10.open
                obtain ⟨n2, hn2⟩ : ∃ n2, n2 = (acc ++ [kn]).length := ⟨_, rfl⟩
                rw [← hn2] at hway10 ⊢
                have hn2' : n2 ≤ 0 + 1 := by
                  have := HACC.out
                  rw [List.length_append, List.length_singleton] at hn2
                  omega
                have p0 := hnd10.cell 0 rfl
                have p1 := hnd10.cell 1 rfl
                have p2 := hnd10.cell 2 rfl
                have p3 := hnd10.cell 3 rfl
                have p4 := hnd10.cell 4 rfl
                have p5 := hnd10.cell 5 rfl
                have p6 := hnd10.cell 6 rfl
                have p7 := hnd10.cell 7 rfl
                have d0 := hco10.cell 0 rfl
                have d1 := hco10.cell 1 rfl
                have d2 := hco10.cell 2 rfl
                have HPO10 := Lib.hid hpo10
                have HWAY10 := Lib.hid hway10
                have HB10 := Lib.hid hB10
                have HND10 := Lib.hid hnd10
                clear hpo10 hway10 hB10 hnd10 hco10 ht10 hown2 hgrow2 hn2 HH HBA HS9 HB9 HPO9 HN9 HW9 r0 r1 r2 r3 r4 r5 r6 r7 r8 r9 r10
                by_cases hz : kn.n.lv = 0
                · have hz2 : ((kn.n.lv : Int) == 0) = true := by rw [beq_iff_eq]; exact hz
                  have HZ := Lib.hid hz
                  clear hz
                  go_wp2
                  try rw [Exit.noGoto_ret]
                  go_ret2
                  refine ⟨ao2, n2, cp2, true, kk, mm, rfl, HF1.out.keep HB10.out, Turn.of (S := VS A b sv) (HX.out.trans (HB10.out.mono HX.out.size)), fun hs => ?_⟩
                  unfold Ends
                  rw [HV.out.2.2.2.done HIM.out HKF.out (fun h => absurd h (Nat.lt_irrefl _)) HAS.out HON.out HZ.out hs]
                  exact ⟨rfl, rfl, rfl, HWAY10.out.base HSZ.out⟩
                · have hz2 : ((kn.n.lv : Int) == 0) = false := by rw [beq_eq_false_iff_ne]; exact hz
                  have HZ := Lib.hid hz
                  clear hz
                  have HQ3 := Lib.hid (HC3.out w10 HB10.out HPO10.out.nd)
                  go_wp2_with fail
                  refine HQ3.out.mono ?_
                  rintro e w11 ⟨x, bb, rfl, hx1, hx2, hb11⟩
                  have HX1 := Lib.hid hx1
                  have HX2 := Lib.hid hx2
                  have H11 := Lib.hid hb11
                  have HB11 := Lib.hid (HB10.out.trans (hb11.mono HB10.out.size))
                  clear hx1 hx2 HQ3 p0 p1 p2 p3 p4 p5 p6 p7 d0 d1 d2
                  have nd11 := HND10.out.below hb11
                  have p0 := nd11.cell 0 rfl
                  clear nd11 hb11
                  cases bb with
                  | false =>
                    have HEND := Lib.hid (fun hs => HV.out.2.2.2.nokid HIM.out HKF.out (fun h => absurd h (Nat.lt_irrefl _)) HAS.out HON.out HZ.out (fun hs => HX2.out hs HZ.out) hs)
                    go_wp2_with fail
                    refine (giveUp_fv _ (HF1.out.keep HB11.out)).mono ?_
                    rintro e w19 ⟨rfl, hf9, ht9⟩
                    have HF9 := Lib.hid hf9
                    have HT9 := Lib.hid (Turn.trans (Turn.of (S := VS A b sv) (HX.out.trans (HB11.out.mono HX.out.size))) ht9)
                    clear hf9 ht9
                    go_wp2
                    try rw [Exit.noGoto_ret]
                    go_ret2
                    refine ⟨none, 0, 0, false, _, _, rfl, HF9.out, HT9.out, fun hs => ?_⟩
                    unfold Ends
                    rw [HEND.out hs]
                    exact ⟨rfl, rfl, rfl, rfl⟩
                  | true =>
                    obtain ⟨z, hzz⟩ : ∃ z, IntKind.i64.wrap (kn.n.lv - 1) = z := ⟨_, rfl⟩
                    have HZZ := Lib.hid hzz
                    go_wp2
                    go_roundw
                    case rel => exact ⟨0 + 1, x, z, ao2, n2, cp2, acc ++ [kn], rfl, rfl, by first | rfl | (rw [← HZZ.out]), by go_num, by omega, by omega, Lib.hid ⟨HWAY10.out.later H11.out, HB11.out, by obtain ⟨j, hj, rfl⟩ := HX1.out (by first | rfl | trivial); exact HNO.out.cs j hj, HV.out.2.2.2.kid HIM.out HKF.out (fun h => absurd h (Nat.lt_irrefl _)) HAS.out HON.out HZ.out (fun hs => HX2.out hs HZ.out) (fun h0 h1 => by rw [← HZZ.out, IntKind.wrap_i64]; omega)⟩⟩
                    case measure => simp [intOf]; omega
          · subst hl
            have hi0' : (0 : Int) < i := by omega
            cases ha : astrayF 2 k kn.n with
            | true =>
              have HEND := Lib.hid (fun hs => HV.out.2.2.2.astray HIM.out HKF.out ha hs)
              have HQ := HC1.out W7 HR7.out
              rw [ha] at HQ
              have HQ1 := Lib.hid HQ
              clear HQ ha
              have nda := HN7.out.below HR7.out
              have coa := HN1.out.below (HB7.out.trans (HR7.out.mono HB7.out.size))
              have pa0 := nda.cell 0 rfl
              have pa1 := nda.cell 1 rfl
              have pa2 := nda.cell 2 rfl
              have pa3 := nda.cell 3 rfl
              have pa4 := nda.cell 4 rfl
              have pa5 := nda.cell 5 rfl
              have pa6 := nda.cell 6 rfl
              have pa7 := nda.cell 7 rfl
              have da0 := coa.cell 0 rfl
              have da1 := coa.cell 1 rfl
              have da2 := coa.cell 2 rfl
              clear nda coa
              rw [HW7.out] at da0 da1 da2
              go_wp2_with fail
              rw [← HW7.out]
              refine HQ1.out.mono ?_
              rintro e w8 ⟨rfl, hb8⟩
              have H8 := Lib.hid hb8
              clear pa0 pa1 pa2 pa3 pa4 pa5 pa6 pa7 da0 da1 da2
              clear hb8
              go_wp2_with fail
              refine (giveUp_fv _ (HF1.out.keep (HB7.out.trans (H8.out.mono HB7.out.size)))).mono ?_
              rintro e w9 ⟨rfl, hf9, ht9⟩
              have HF9 := Lib.hid hf9
              have HT9 := Lib.hid (Turn.trans (Turn.of (S := VS A b sv) (HX.out.trans ((HB7.out.trans (H8.out.mono HB7.out.size)).mono HX.out.size))) ht9)
              clear hf9 ht9
              go_wp2
              try rw [Exit.noGoto_ret]
              go_ret2
              refine ⟨none, 0, 0, false, _, _, rfl, HF9.out, HT9.out, fun hs => ?_⟩
              unfold Ends
              rw [HEND.out hs]
              exact ⟨rfl, rfl, rfl, rfl⟩
            | false =>
              have HQ := HC1.out W7 HR7.out
              rw [ha] at HQ
              have HQ1 := Lib.hid HQ
              have HAS := Lib.hid ha
              clear HQ ha
              have nda := HN7.out.below HR7.out
              have coa := HN1.out.below (HB7.out.trans (HR7.out.mono HB7.out.size))
              have pa0 := nda.cell 0 rfl
              have pa1 := nda.cell 1 rfl
              have pa2 := nda.cell 2 rfl
              have pa3 := nda.cell 3 rfl
              have pa4 := nda.cell 4 rfl
              have pa5 := nda.cell 5 rfl
              have pa6 := nda.cell 6 rfl
              have pa7 := nda.cell 7 rfl
              have da0 := coa.cell 0 rfl
              have da1 := coa.cell 1 rfl
              have da2 := coa.cell 2 rfl
              clear nda coa
              rw [HW7.out] at da0 da1 da2
              go_wp2_with fail
              rw [← HW7.out]
              refine HQ1.out.mono ?_
              rintro e w8 ⟨rfl, hb8⟩
              have H8 := Lib.hid hb8
              clear pa0 pa1 pa2 pa3 pa4 pa5 pa6 pa7 da0 da1 da2
              clear hb8 HQ1
              have ndb := HN7.out.below H8.out
              have cob := HN1.out.below (HB7.out.trans (H8.out.mono HB7.out.size))
              have pb0 := ndb.cell 0 rfl
              have pb1 := ndb.cell 1 rfl
              have pb2 := ndb.cell 2 rfl
              have pb3 := ndb.cell 3 rfl
              have pb4 := ndb.cell 4 rfl
              have pb5 := ndb.cell 5 rfl
              have pb6 := ndb.cell 6 rfl
              have pb7 := ndb.cell 7 rfl
              have db0 := cob.cell 0 rfl
              have db1 := cob.cell 1 rfl
              have db2 := cob.cell 2 rfl
              clear ndb cob
              cases ho : onF 2 k kn.n with
              | false =>
                have HQ := HC2.out w8 H8.out
                rw [ho] at HQ
                have HQ2 := Lib.hid HQ
                have HON := Lib.hid ho
                clear HQ ho
                go_wp2_with fail
                refine HQ2.out.mono ?_
                rintro e w9 ⟨rfl, hb9⟩
                have H9 := Lib.hid (H8.out.trans (hb9.mono H8.out.size))
                clear pb0 pb1 pb2 pb3 pb4 pb5 pb6 pb7 db0 db1 db2
                clear hb9 HQ2
                have ndc := HN7.out.below H9.out
                have coc := HN1.out.below (HB7.out.trans (H9.out.mono HB7.out.size))
                have pc0 := ndc.cell 0 rfl
                have pc1 := ndc.cell 1 rfl
                have pc2 := ndc.cell 2 rfl
                have pc3 := ndc.cell 3 rfl
                have pc4 := ndc.cell 4 rfl
                have pc5 := ndc.cell 5 rfl
                have pc6 := ndc.cell 6 rfl
                have pc7 := ndc.cell 7 rfl
                have dc0 := coc.cell 0 rfl
                have dc1 := coc.cell 1 rfl
                have dc2 := coc.cell 2 rfl
                clear ndc coc
                go_wp2
                go_quiet (fail)
                go_wp2
                go_roundw
                case rel => exact ⟨i + 1, kn.n.nx, kn.n.lv, ao, n, cp, acc, rfl, rfl, rfl, by go_num, by omega, by omega, Lib.hid ⟨(HWAY.out.later H9.out).later (bdn _ _), (HB7.out.trans (H9.out.mono HB7.out.size)).trans ((bdn _ _).mono (HB7.out.trans (H9.out.mono HB7.out.size)).size), HNO.out.nx, HV.out.2.2.2.over HIM.out HKF.out (fun _ => rfl) HAS.out HON.out⟩⟩
                case measure => simp [intOf]; omega
              | true =>
                have HQ := HC2.out w8 H8.out
                rw [ho] at HQ
                have HQ2 := Lib.hid HQ
                have HON := Lib.hid ho
                clear HQ ho
                go_wp2_with fail
                refine HQ2.out.mono ?_
                rintro e w9 ⟨rfl, hb9⟩
                have H9 := Lib.hid (H8.out.trans (hb9.mono H8.out.size))
                clear pb0 pb1 pb2 pb3 pb4 pb5 pb6 pb7 db0 db1 db2
                clear hb9 HQ2
                have nk9 := HN6.out.below H9.out
                have r0 := nk9.cell 0 rfl
                have r1 := nk9.cell 1 rfl
                have r2 := nk9.cell 2 rfl
                have r3 := nk9.cell 3 rfl
                have r4 := nk9.cell 4 rfl
                have r5 := nk9.cell 5 rfl
                have r6 := nk9.cell 6 rfl
                have r7 := nk9.cell 7 rfl
                have r8 := nk9.cell 8 rfl
                have r9 := nk9.cell 9 rfl
                have r10 := nk9.cell 10 rfl
                clear nk9
                have HW9 := Lib.hid (HWAY.out.later H9.out)
                have hacc : n = acc.length := HW9.out.ks.len.1
                obtain ⟨ls, hls, hown⟩ := HW9.out
                rw [← hacc] at hown
                have hbA : Below w9.heap.size w9 (w9.alloc (.cells #[.int .i64 kn.c, .int .u64 kn.wd, .int .u64 kn.vr, .int .i64 kn.n.lv, .string kn.n.lo, .string kn.n.hi, .bool kn.n.la, .int .i64 kn.n.nx, .slice ak kn.n.ks.length ck, .slice av kn.n.vs.length cv, .slice ac kn.n.cs.length cc] 39)) := (Below.refl _ _).alloc (Nat.le_refl _) _
                have ho1 := fv_stays hown hbA
                have hnews := World.news_of_block (cs := #[.int .i64 kn.c, .int .u64 kn.wd, .int .u64 kn.vr, .int .i64 kn.n.lv, .string kn.n.lo, .string kn.n.hi, .bool kn.n.la, .int .i64 kn.n.nx, .slice ak kn.n.ks.length ck, .slice av kn.n.vs.length cv, .slice ac kn.n.cs.length cc]) (heap_alloc_new w9 (.cells #[.int .i64 kn.c, .int .u64 kn.wd, .int .u64 kn.vr, .int .i64 kn.n.lv, .string kn.n.lo, .string kn.n.hi, .bool kn.n.la, .int .i64 kn.n.nx, .slice ak kn.n.ks.length ck, .slice av kn.n.vs.length cv, .slice ac kn.n.cs.length cc] 39))
                have hKL : KL (PO w9 B) [.int .i64 kn.c, .int .u64 kn.wd, .int .u64 kn.vr, .int .i64 kn.n.lv, .string kn.n.lo, .string kn.n.hi, .bool kn.n.la, .int .i64 kn.n.nx, .slice ak kn.n.ks.length ck, .slice av kn.n.vs.length cv, .slice ac kn.n.cs.length cc] kn := ⟨ak, _, ck, av, _, cv, ac, _, cc, rfl, HPO.out.keep H9.out⟩
                have hone := hKL.ones
                have HH := Lib.hid (show _ ∧ _ ∧ _ ∧ _ from ⟨hls, ho1, hnews, hone⟩)
                have HBA := Lib.hid hbA
                have HACC := Lib.hid hacc
                have hb9s := HB7.out.trans (H9.out.mono HB7.out.size)
                have HS9 := Lib.hid (show W1.heap.size ≤ (w9.alloc (.cells #[.int .i64 kn.c, .int .u64 kn.wd, .int .u64 kn.vr, .int .i64 kn.n.lv, .string kn.n.lo, .string kn.n.hi, .bool kn.n.la, .int .i64 kn.n.nx, .slice ak kn.n.ks.length ck, .slice av kn.n.vs.length cv, .slice ac kn.n.cs.length cc] 39)).heap.size from Nat.le_trans hb9s.size hbA.size)
                have HB9 := Lib.hid (hb9s.trans (hbA.mono hb9s.size))
                have HPO9 := Lib.hid ((HPO.out.keep H9.out).keep hbA)
                have HN9 := Lib.hid ((HN7.out.below H9.out).below hbA)
                clear hown hbA ho1 hnews hone hls hKL hacc hb9s
                go_wp2_with ((with_reducible show wpList _ _ _ (⟨some 57, _, _, _, _, _⟩ :: _) _ _); refine wpList_append_own (o := ⟨some 57, _, _, _, _, _⟩) _ rfl _ _ 22 rfl W1.heap.size 39 i0 (.agg #[.int .i64 0, .int .u64 0, .int .u64 0, .int .i64 0, .string ⟨#[]⟩, .string ⟨#[]⟩, .bool false, .int .i64 0, .slice none 0 0, .slice none 0 0, .slice none 0 0]) 11 152 Tryz.underlying22 HI.out.1 HI.out.2.1 HI.out.2.2.1 HI.out.2.2.2 rfl (by decide) _ _ _ rfl HH.out.2.1 ⟨w9.heap.size, 0, none⟩ 1 1 [.int .i64 kn.c, .int .u64 kn.wd, .int .u64 kn.vr, .int .i64 kn.n.lv, .string kn.n.lo, .string kn.n.hi, .bool kn.n.la, .int .i64 kn.n.nx, .slice ak kn.n.ks.length ck, .slice av kn.n.vs.length cv, .slice ac kn.n.cs.length cc] rfl rfl HH.out.2.2.1 HH.out.2.2.2 (by unfold maxLen; omega) (by omega) HS9.out ?_)
                intro v2 w10 hown2 hgrow2 _
                have ht10 : Turn (fun j => (Value.slice ao n cp).ownBlock = some j) (w9.alloc (.cells #[.int .i64 kn.c, .int .u64 kn.wd, .int .u64 kn.vr, .int .i64 kn.n.lv, .string kn.n.lo, .string kn.n.hi, .bool kn.n.la, .int .i64 kn.n.nx, .slice ak kn.n.ks.length ck, .slice av kn.n.vs.length cv, .slice ac kn.n.cs.length cc] 39)) w10 := (Turn.refl _ _).grown hgrow2 (fun j hj => Or.inl hj)
                have hpo10 : PO w10 B (.slice ak kn.n.ks.length ck) (.slice av kn.n.vs.length cv) (.slice ac kn.n.cs.length cc) kn := KnO.turn (S := fun j => (Value.slice ao n cp).ownBlock = some j) HPO9.out (off_row HH.out.2.1) ht10
                have hway10 : KsR (PO w10 B) w10 W1.heap.size v2 (acc ++ [kn]) := KsR.add (HH.out.1.kl (fun _ _ _ _ hp => KnO.turn (S := fun j => (Value.slice ao n cp).ownBlock = some j) (hp.keep HBA.out) (off_row HH.out.2.1) ht10)) ⟨ak, _, ck, av, _, cv, ac, _, cc, rfl, hpo10⟩ (by rw [← HACC.out]; exact hown2)
                have hB10 : Below W1.heap.size W1 w10 := HB9.out.grown hgrow2 HS9.out (fun j hj => (fv_block HH.out.2.1 hj).1)
                have hnd10 : BX w10 (w5.heap.size + 1) 36 #[.int .i64 kn.n.lv, .string kn.n.lo, .string kn.n.hi, .bool kn.n.la, .int .i64 kn.n.nx, .slice ak kn.n.ks.length ck, .slice av kn.n.vs.length cv, .slice ac kn.n.cs.length cc] := (hgrow2.block _ (lt_of_block HN9.out) (fun e => by
                  obtain ⟨_, cs', e'⟩ := fv_block HH.out.2.1 e.symm
                  have e2 := HN9.out
                  unfold BX at e2
                  rw [e2] at e'
                  injection e' with e'
                  injection e' with _ e3 _
                  exact absurd e3 (by decide))).trans HN9.out
                have hco10 := HN1.out.below hB10
                obtain ⟨ao2, cp2, rfl⟩ := hway10.open
                obtain ⟨n2, hn2⟩ : ∃ n2, n2 = (acc ++ [kn]).length := ⟨_, rfl⟩
                rw [← hn2] at hway10 ⊢
                have hn2' : n2 ≤ i + 1 := by
                  have := HACC.out
                  rw [List.length_append, List.length_singleton] at hn2
                  omega
                have p0 := hnd10.cell 0 rfl
                have p1 := hnd10.cell 1 rfl
                have p2 := hnd10.cell 2 rfl
                have p3 := hnd10.cell 3 rfl
                have p4 := hnd10.cell 4 rfl
                have p5 := hnd10.cell 5 rfl
                have p6 := hnd10.cell 6 rfl
                have p7 := hnd10.cell 7 rfl
                have d0 := hco10.cell 0 rfl
                have d1 := hco10.cell 1 rfl
                have d2 := hco10.cell 2 rfl
                have HPO10 := Lib.hid hpo10
                have HWAY10 := Lib.hid hway10
                have HB10 := Lib.hid hB10
                have HND10 := Lib.hid hnd10
                clear hpo10 hway10 hB10 hnd10 hco10 ht10 hown2 hgrow2 hn2 HH HBA HS9 HB9 HPO9 HN9 HW9 r0 r1 r2 r3 r4 r5 r6 r7 r8 r9 r10
                by_cases hz : kn.n.lv = 0
                · have hz2 : ((kn.n.lv : Int) == 0) = true := by rw [beq_iff_eq]; exact hz
                  have HZ := Lib.hid hz
                  clear hz
                  go_wp2
                  try rw [Exit.noGoto_ret]
                  go_ret2
                  refine ⟨ao2, n2, cp2, true, kk, mm, rfl, HF1.out.keep HB10.out, Turn.of (S := VS A b sv) (HX.out.trans (HB10.out.mono HX.out.size)), fun hs => ?_⟩
                  unfold Ends
                  rw [HV.out.2.2.2.done HIM.out HKF.out (fun _ => rfl) HAS.out HON.out HZ.out hs]
                  exact ⟨rfl, rfl, rfl, HWAY10.out.base HSZ.out⟩
                · have hz2 : ((kn.n.lv : Int) == 0) = false := by rw [beq_eq_false_iff_ne]; exact hz
                  have HZ := Lib.hid hz
                  clear hz
                  have HQ3 := Lib.hid (HC3.out w10 HB10.out HPO10.out.nd)
                  go_wp2_with fail
                  refine HQ3.out.mono ?_
                  rintro e w11 ⟨x, bb, rfl, hx1, hx2, hb11⟩
                  have HX1 := Lib.hid hx1
                  have HX2 := Lib.hid hx2
                  have H11 := Lib.hid hb11
                  have HB11 := Lib.hid (HB10.out.trans (hb11.mono HB10.out.size))
                  clear hx1 hx2 HQ3 p0 p1 p2 p3 p4 p5 p6 p7 d0 d1 d2
                  have nd11 := HND10.out.below hb11
                  have p0 := nd11.cell 0 rfl
                  clear nd11 hb11
                  cases bb with
                  | false =>
                    have HEND := Lib.hid (fun hs => HV.out.2.2.2.nokid HIM.out HKF.out (fun _ => rfl) HAS.out HON.out HZ.out (fun hs => HX2.out hs HZ.out) hs)
                    go_wp2_with fail
                    refine (giveUp_fv _ (HF1.out.keep HB11.out)).mono ?_
                    rintro e w19 ⟨rfl, hf9, ht9⟩
                    have HF9 := Lib.hid hf9
                    have HT9 := Lib.hid (Turn.trans (Turn.of (S := VS A b sv) (HX.out.trans (HB11.out.mono HX.out.size))) ht9)
                    clear hf9 ht9
                    go_wp2
                    try rw [Exit.noGoto_ret]
                    go_ret2
                    refine ⟨none, 0, 0, false, _, _, rfl, HF9.out, HT9.out, fun hs => ?_⟩
                    unfold Ends
                    rw [HEND.out hs]
                    exact ⟨rfl, rfl, rfl, rfl⟩
                  | true =>
                    obtain ⟨z, hzz⟩ : ∃ z, IntKind.i64.wrap (kn.n.lv - 1) = z := ⟨_, rfl⟩
                    have HZZ := Lib.hid hzz
                    go_wp2
                    go_roundw
                    case rel => exact ⟨i + 1, x, z, ao2, n2, cp2, acc ++ [kn], rfl, rfl, by first | rfl | (rw [← HZZ.out]), by go_num, by omega, by omega, Lib.hid ⟨HWAY10.out.later H11.out, HB11.out, by obtain ⟨j, hj, rfl⟩ := HX1.out (by first | rfl | trivial); exact HNO.out.cs j hj, HV.out.2.2.2.kid HIM.out HKF.out (fun _ => rfl) HAS.out HON.out HZ.out (fun hs => HX2.out hs HZ.out) (fun h0 h1 => by rw [← HZZ.out, IntKind.wrap_i64]; omega)⟩⟩
                    case measure => simp [intOf]; omega
    · have HEND := Lib.hid (fun hs => HV.out.2.2.2.stop (by omega) hs)
      go_wp2_with fail
      refine (giveUp_fv _ HFR.out).mono ?_
      rintro e w19 ⟨rfl, hf9, ht9⟩
      have HF9 := Lib.hid hf9
      have HT9 := Lib.hid (Turn.trans (Turn.of (S := VS A b sv) (HX.out.trans (HV.out.2.1.mono HX.out.size))) ht9)
      clear hf9 ht9
      go_wp2
      try rw [Exit.noGoto_ret]
      go_ret2
      refine ⟨none, 0, 0, false, _, _, rfl, HF9.out, HT9.out, fun hs => ?_⟩
      unfold Ends
      rw [HEND.out hs]
      exact ⟨rfl, rfl, rfl, rfl⟩
end Go.Proofs.YtdbklklmpnlinaaGreat

namespace Go.Proofs.YtdbklklmpnlinaaGreat
open Go.RowKit Go.Maps

theorem DownSays.from {kind M : Nat} {k : ByteArray} {ks : List Kn} {w w1 w' : World} {A b B N : Nat} {sv : Value} {ss : List (Int × Int)} {kk mm : Int} {e : Ending} (h : DownSays kind k ks M w1 w' B A b N sv ss kk mm e) (hb : Below w.heap.size w w1) : DownSays kind k ks M w w' B A b N sv ss kk mm e := by
  obtain ⟨ao, n, c, ok, k', m', h1, h2, h3, h4⟩ := h
  refine ⟨ao, n, c, ok, k', m', h1, h2, (Turn.of hb).trans h3, fun hs => ?_⟩
  have h5 := h4 hs
  unfold Ends at h5 ⊢
  split at h5
  · obtain ⟨a1, a2, a3, a4⟩ := h5
    exact ⟨a1, a2, a3, a4.base hb.size⟩
  · exact h5
  · exact h5
def kindN (kind : Int) : Nat := if kind = 1 then 1 else if kind = 2 then 2 else 0
section
variable {A b B N : Nat} {sv : Value} {ks : List Kn} {ss : List (Int × Int)} {kk mm : Int}
set_option maxHeartbeats 1000000 in
theorem leaf_says (most : Int) (k : ByteArray) (w : World) (h : FV w B A b sv N ks ss kk mm) (hok : ∀ kn ∈ ks, NodOk kn.n) (hmost : most < 8192) (hk : k.size ≤ 140737488355328) :
    Calls Tryz.prog 10 #[.pointer (some ⟨A, 0, none⟩), .string k, .int .i64 most] w fun e w' => DownSays 0 k ks most.toNat w w' B A b N sv ss kk mm e := by
  have hx1 := boxed_below w (.cells #[.string k] 9)
  have n1 := BX.new w 9 #[.string k]
  have hx2 := boxed_below (w.alloc (.cells #[.string k] 9)) (.cells #[.func (.func 42) #[] #[.pointer (some ⟨w.heap.size, 0, none⟩)], .func (.func 43) #[] #[.pointer (some ⟨w.heap.size, 0, none⟩)], .func (.func 44) #[] #[.pointer (some ⟨w.heap.size, 0, none⟩)]] 79)
  obtain ⟨W2, hW2⟩ : ∃ W, W = (w.alloc (.cells #[.string k] 9)).alloc (.cells #[.func (.func 42) #[] #[.pointer (some ⟨w.heap.size, 0, none⟩)], .func (.func 43) #[] #[.pointer (some ⟨w.heap.size, 0, none⟩)], .func (.func 44) #[] #[.pointer (some ⟨w.heap.size, 0, none⟩)]] 79) := ⟨_, rfl⟩
  have n12 := n1.below hx2
  have hx := hx1.trans (hx2.mono hx1.size)
  rw [← hW2] at hx n12
  have HD := Lib.hid (down0 A b B N sv ks ss kk mm most k w.heap.size W2 (h.keep hx) hok hmost n12 hk)
  clear hx1 n1 hx2 n12 h hok hk
  have HX := Lib.hid hx
  have HW := Lib.hid hW2
  clear hx hW2 hmost
  go_enter Tryz.func10, Tryz.ntmps10
  go_wp2_with fail
  rw [← HW.out]
  refine HD.out.mono ?_
  rintro e w3 hd
  obtain ⟨ao, n, c, ok, k', m', rfl, h2⟩ := id hd
  have HS := Lib.hid (hd.from HX.out)
  clear hd h2
  go_wp2
  go_ret2
  exact HS.out
set_option maxHeartbeats 1000000 in
theorem below_says (most : Int) (k : ByteArray) (w : World) (h : FV w B A b sv N ks ss kk mm) (hok : ∀ kn ∈ ks, NodOk kn.n) (hmost : most < 8192) (hk : k.size ≤ 140737488355328) :
    Calls Tryz.prog 12 #[.pointer (some ⟨A, 0, none⟩), .string k, .int .i64 most] w fun e w' => DownSays 1 k ks most.toNat w w' B A b N sv ss kk mm e := by
  have hx1 := boxed_below w (.cells #[.string k] 9)
  have n1 := BX.new w 9 #[.string k]
  have hx2 := boxed_below (w.alloc (.cells #[.string k] 9)) (.cells #[.func (.func 48) #[] #[.pointer (some ⟨w.heap.size, 0, none⟩)], .func (.func 49) #[] #[.pointer (some ⟨w.heap.size, 0, none⟩)], .func (.func 50) #[] #[.pointer (some ⟨w.heap.size, 0, none⟩)]] 79)
  obtain ⟨W2, hW2⟩ : ∃ W, W = (w.alloc (.cells #[.string k] 9)).alloc (.cells #[.func (.func 48) #[] #[.pointer (some ⟨w.heap.size, 0, none⟩)], .func (.func 49) #[] #[.pointer (some ⟨w.heap.size, 0, none⟩)], .func (.func 50) #[] #[.pointer (some ⟨w.heap.size, 0, none⟩)]] 79) := ⟨_, rfl⟩
  have n12 := n1.below hx2
  have hx := hx1.trans (hx2.mono hx1.size)
  rw [← hW2] at hx n12
  have HD := Lib.hid (down1 A b B N sv ks ss kk mm most k w.heap.size W2 (h.keep hx) hok hmost n12 hk)
  clear hx1 n1 hx2 n12 h hok hk
  have HX := Lib.hid hx
  have HW := Lib.hid hW2
  clear hx hW2 hmost
  go_enter Tryz.func12, Tryz.ntmps12
  go_wp2_with fail
  rw [← HW.out]
  refine HD.out.mono ?_
  rintro e w3 hd
  obtain ⟨ao, n, c, ok, k', m', rfl, h2⟩ := id hd
  have HS := Lib.hid (hd.from HX.out)
  clear hd h2
  go_wp2
  go_ret2
  exact HS.out
set_option maxHeartbeats 1000000 in
theorem end_says (most : Int) (k : ByteArray) (w : World) (h : FV w B A b sv N ks ss kk mm) (hok : ∀ kn ∈ ks, NodOk kn.n) (hmost : most < 8192) :
    Calls Tryz.prog 13 #[.pointer (some ⟨A, 0, none⟩), .int .i64 most] w fun e w' => DownSays 2 k ks most.toNat w w' B A b N sv ss kk mm e := by
  have hx := boxed_below w (.cells #[.func (.func 52) #[] #[], .func (.func 53) #[] #[], .func (.func 54) #[] #[]] 79)
  obtain ⟨W2, hW2⟩ : ∃ W, W = w.alloc (.cells #[.func (.func 52) #[] #[], .func (.func 53) #[] #[], .func (.func 54) #[] #[]] 79) := ⟨_, rfl⟩
  rw [← hW2] at hx
  have HD := Lib.hid (down2 A b B N sv ks ss kk mm most k W2 (h.keep hx) hok hmost)
  clear h hok
  have HX := Lib.hid hx
  have HW := Lib.hid hW2
  clear hx hW2 hmost
  go_enter Tryz.func13, Tryz.ntmps13
  go_wp2_with fail
  rw [← HW.out]
  refine HD.out.mono ?_
  rintro e w3 hd
  obtain ⟨ao, n, c, ok, k', m', rfl, h2⟩ := id hd
  have HS := Lib.hid (hd.from HX.out)
  clear hd h2
  go_wp2
  go_ret2
  exact HS.out

end
end Go.Proofs.YtdbklklmpnlinaaGreat
