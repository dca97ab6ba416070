/- The document's way (bowerref19.Way), in a view of sound nodes. Conditions: sizes that fit. -/
import Derived.Test.YtefmnfplipdnmaaRKids
import Derived.Test.YtefmnfplipdnmaaFrDocs
import Derived.WalkMore
namespace Go.Proofs.Ytefmnfplipdnmaa
open Go.RowKit Go.Maps

theorem setCell_same19 {w : World} {g i : Nat} {t : TypeId} {cs : Array Value} {v : Value} (h : BX w g t cs) (hv : cs[i]? = some v) : w.setCell ⟨g, i, none⟩ v = w := by
  have e : cs.setIfInBounds i v = cs := by
    obtain ⟨hi, he⟩ := Array.getElem?_eq_some_iff.1 hv
    apply Array.ext_getElem?
    intro j
    rw [Array.getElem?_setIfInBounds]
    by_cases hij : i = j
    · subst hij
      simp [hi, he]
    · simp [hij]
  have h2 : (w.setCell ⟨g, i, none⟩ v).heap = w.heap := by
    apply Array.ext_getElem?
    intro j
    by_cases hj : j = g
    · subst hj
      rw [heap_setCell_same w j i cs t v h, e]
      exact h.symm
    · exact Below.heap_setCell _ _ _ _ hj
  show ({ w with heap := (w.setCell ⟨g, i, none⟩ v).heap } : World) = w
  rw [h2]
theorem PV.nd {w : World} {ak av ac : Option Addr} {nk ck nv cv nc cc : Nat} {kn : Kn} (h : PV w (.slice ak nk ck) (.slice av nv cv) (.slice ac nc cc) kn) : nk = kn.n.ks.length ∧ nv = kn.n.vs.length ∧ nc = kn.n.cs.length ∧ NdAt w ak av ac nk ck nv cv nc cc kn.n.ks kn.n.vs kn.n.cs := by
  obtain ⟨ak', av', ac', ck', cv', cc', e, hN⟩ := h
  unfold Kn.val at e
  injection e with e
  injection e with e
  simp only [List.cons.injEq, Value.slice.injEq, and_true, true_and] at e
  obtain ⟨⟨rfl, rfl, rfl⟩, ⟨rfl, rfl, rfl⟩, rfl, rfl, rfl⟩ := e
  exact ⟨rfl, rfl, rfl, hN⟩
/-- What the document's way tells. -/
def WayGives (w0 : World) (kind : Nat) (k : ByteArray) (ks : List Kn) (M : Nat) (w w' : World) (e : Ending) (ao : Option Addr) (n c : Nat) (so : Option Addr) (sn sc : Nat) (kk mm : Int) : Prop :=
  ∃ (oo : Option Addr) (on oc : Nat) (ok : Bool) (k' m' : Int), e = .returned (.tuple #[.agg #[.slice ao n c, .slice so sn sc, .int .i64 k', .int .i64 m'], .slice oo on oc, .bool ok]) ∧ Below w.heap.size w w' ∧
    match runW kind k ks M ⟨0, -1, []⟩ with
    | .done l => ok = true ∧ k' = kk ∧ m' = mm ∧ KsR (PV w0) w' w.heap.size (.slice oo on oc) l
    | .miss cell => ok = false ∧ on = 0 ∧ k' = lackK kk (cellB cell) 1 ∧ m' = lackM kk mm (cellB cell) cell
    | .lost => ok = false ∧ on = 0 ∧ k' = lackK kk false 0 ∧ m' = lackM kk mm false 0

set_option maxHeartbeats 8000000 in
set_option maxRecDepth 100000 in
theorem rway_any (w0 : World) (ao : Option Addr) (n c : Nat) (so : Option Addr) (sn sc : Nat) (kk mm most kind : Int) (k : ByteArray) (ks : List Kn) (w : World) (h0 : Below w0.heap.size w0 w) (h : KsAt (PV w0) w (.slice ao n c) ks) (hS : AllS ks) (hok : ∀ kn ∈ ks, NodOk kn.n) (hmost : most < 8192) (hk : k.size ≤ 140737488355328) :
    Calls Try.prog 34 #[.agg #[.slice ao n c, .slice so sn sc, .int .i64 kk, .int .i64 mm], .agg #[.int .i64 kind, .string k], .int .i64 most] w fun e w' => WayGives w0 (kindN kind) k ks most.toNat w w' e ao n c so sn sc kk mm := by
  obtain ⟨W1, hW1, b1, b2, b3, hx, hsz⟩ := bx3 w 31 75 31 #[.slice ao n c, .slice so sn sc, .int .i64 kk, .int .i64 mm] #[.int .i64 kind, .string k] #[.slice none 0 0, .slice none 0 0, .int .i64 0, .int .i64 0]
  obtain ⟨g1, hg1⟩ : ∃ g, g = w.heap.size + 1 := ⟨_, rfl⟩
  obtain ⟨g2, hg2⟩ : ∃ g, g = w.heap.size + 2 := ⟨_, rfl⟩
  rw [← hg1] at b2
  rw [← hg2] at b3
  have HG := Lib.hid (show g1 = w.heap.size + 1 ∧ g2 = w.heap.size + 2 ∧ W1.heap.size = w.heap.size + 3 from ⟨hg1, hg2, hsz⟩)
  have hne : w.heap.size ≠ g2 := by omega
  have hne' : g2 ≠ w.heap.size := by omega
  have HX := Lib.hid hx
  have HB := Lib.hid (show _ ∧ _ ∧ _ from ⟨b1, b2, b3⟩)
  have HW := Lib.hid hW1
  have HKS := Lib.hid (h.keep hx)
  have HS := Lib.hid hS
  have HOK := Lib.hid hok
  have HK := Lib.hid hk
  have H0 := Lib.hid (h0.trans (hx.mono h0.size))
  obtain ⟨i0, hi0, hz0, hz1, hz2⟩ := info_parts fvInfoKn
  have HI := Lib.hid (show _ ∧ _ ∧ _ ∧ _ from ⟨hi0, hz0, hz1, hz2⟩)
  obtain ⟨K, hK⟩ : ∃ K, K = kindN kind := ⟨_, rfl⟩
  rw [← hK]
  have HKN := Lib.hid hK
  have w1 := b2.cell 0 rfl
  have w2 := b2.cell 1 rfl
  clear hx b1 b2 b3 hW1 hsz hg1 hg2 h hS hok hk h0 hi0 hz0 hz1 hz2 hK w1 w2
  go_enter Try.func34, Try.ntmps34
  go_upto_region 1 with fail
  rw [← HW.out]
  try simp only [World.size_alloc]
  rw [show w.heap.size + 1 + 1 = w.heap.size + 2 from rfl, ← HG.out.1, ← HG.out.2.1]
  clear HW
  go_wp2
  go_loopw [9, 10, 11, 12] (fun s9 s10 s11 s12 wr => ∃ (i : Nat) (s : St) (oo : Option Addr) (on oc : Nat), s9 = .slice oo on oc ∧ s10 = .int .i64 s.c ∧ s11 = .int .i64 s.lv ∧ s12 = .int .i64 i ∧ i ≤ most.toNat ∧ on ≤ i ∧ -1 ≤ s.lv ∧ Hid (KsR (PV w0) wr W1.heap.size (.slice oo on oc) s.acc ∧ Below W1.heap.size W1 wr ∧ runW K k ks most.toNat ⟨0, -1, []⟩ = runW K k ks (most.toNat - i) s)) (fun _ _ _ s _ => most.toNat - (intOf s).toNat)
  case atStart => exact ⟨0, ⟨0, -1, []⟩, none, 0, 0, rfl, rfl, rfl, rfl, Nat.zero_le _, Nat.le_refl _, Int.le_refl _, Lib.hid ⟨KsR.nil _ _ _, Below.refl _ _, rfl⟩⟩
  case round =>
    obtain ⟨i, s, oo, on, oc, rfl, rfl, rfl, rfl, hi, hn, hlv, HV⟩ := hrel
    have HKR := Lib.hid (HKS.out.keep HV.out.2.1)
    by_cases hlt : (i : Int) < most
    · have HIM := Lib.hid (show 0 < most.toNat - i ∧ i < most.toNat by omega)
      cases hkf : kfind ks s.c with
      | none =>
        have HA := Lib.hid (rat_miss ao n c so sn sc kk mm s.c ks wr HKR.out hkf)
        have HEND := Lib.hid (show runW K k ks most.toNat ⟨0, -1, []⟩ = .miss s.c by rw [HV.out.2.2]; exact runW_out (by unfold stepW; rw [hkf]) HIM.out.1)
        have HCB := Lib.hid (show HV.out = HV.out from rfl)
        obtain ⟨k9, hk9⟩ : ∃ z, z = lackK kk (cellB s.c) 1 := ⟨_, rfl⟩
        obtain ⟨m9, hm9⟩ : ∃ z, z = lackM kk mm (cellB s.c) s.c := ⟨_, rfl⟩
        rw [← hk9, ← hm9] at HA
        have HKM := Lib.hid (show _ ∧ _ from ⟨hk9, hm9⟩)
        clear hkf hk9 hm9 HCB
        have b1 := HB.out.1.below HV.out.2.1
        have a0 := b1.cell 0 rfl
        have a1 := b1.cell 1 rfl
        have a2 := b1.cell 2 rfl
        have a3 := b1.cell 3 rfl
        clear b1
        go_wp2_with fail
        refine HA.out.mono ?_
        rintro e w5 ⟨rfl, hb5⟩
        clear a0 a1 a2 a3
        have hx5 := HV.out.2.1.trans (hb5.mono HV.out.2.1.size)
        have hx6 := boxed_below w5 (.cells #[.slice ao n c, .slice so sn sc, .int .i64 k9, .int .i64 m9] 31)
        have hx7 := boxed_below (w5.alloc (.cells #[.slice ao n c, .slice so sn sc, .int .i64 k9, .int .i64 m9] 31)) (.cells #[.int .i64 0, .int .u64 0, .int .u64 0, .int .i64 0, .string ⟨#[]⟩, .string ⟨#[]⟩, .bool false, .int .i64 0, .slice none 0 0, .slice none 0 0, .slice none 0 0] 39)
        have hx57 := (hx5.trans (hx6.mono hx5.size)).trans (hx7.mono (hx5.trans (hx6.mono hx5.size)).size)
        have HX7 := Lib.hid (HX.out.trans (hx57.mono HX.out.size))
        have b1 := HB.out.1.below hx57
        have b3 := HB.out.2.2.below hx57
        have a0 := b1.cell 0 rfl
        have a1 := b1.cell 1 rfl
        have a2 := b1.cell 2 rfl
        have a3 := b1.cell 3 rfl
        have y0 := b1.frozen 0
        have y1 := b1.frozen 1
        have y2 := b1.frozen 2
        have y3 := b1.frozen 3
        have r0 := b3.cell 0 rfl
        have r1 := b3.cell 1 rfl
        have r2 := b3.cell 2 rfl
        have r3 := b3.cell 3 rfl
        have x0 := b3.frozen 0
        have x1 := b3.frozen 1
        have x2 := b3.frozen 2
        have x3 := b3.frozen 3
        clear b1 b3 hx5 hx6 hx7 hx57 hb5
        go_wp2
        refine bodyPost_ret (v := .tuple #[.agg #[.slice ao n c, .slice so sn sc, .int .i64 k9, .int .i64 m9], .slice none 0 0, .bool false]) (by simp [results, Try.results34, go_sem, *]) rfl ?_
        refine ⟨none, 0, 0, false, k9, m9, rfl, ?_, ?_⟩
        · have hgg : w.heap.size ≤ g2 := by have := HG.out; omega
          repeat' (first | (with_reducible exact HX7.out) | (with_reducible refine Below.setCell ?_ ?_ _) | exact Nat.le_refl _ | exact hgg)
        · rw [HEND.out]
          exact ⟨rfl, rfl, HKM.out.1, HKM.out.2⟩
      | some kn =>
        have HA := Lib.hid (rat_hit ao n c so sn sc kk mm s.c ks kn wr HKR.out hkf)
        have HKF := Lib.hid hkf
        have HNO := Lib.hid (HOK.out kn (kfind_mem hkf))
        have hlev := (HS.out kn (kfind_mem hkf)).level
        clear hkf
        have b1 := HB.out.1.below HV.out.2.1
        have a0 := b1.cell 0 rfl
        have a1 := b1.cell 1 rfl
        have a2 := b1.cell 2 rfl
        have a3 := b1.cell 3 rfl
        clear b1
        go_wp2_with fail
        refine HA.out.mono ?_
        rintro e w5 ⟨⟨ak, nk, ck, av, nv, cv, ac, nc, cc, rfl, hP⟩, hb5⟩
        obtain ⟨rfl, rfl, rfl, hnd⟩ := hP.nd
        clear a0 a1 a2 a3
        have hx5 := HV.out.2.1.trans (hb5.mono HV.out.2.1.size)
        have hx6 := boxed_below w5 (.cells #[.slice ao n c, .slice so sn sc, .int .i64 kk, .int .i64 mm] 31)
        have hx7 := boxed_below (w5.alloc (.cells #[.slice ao n c, .slice so sn sc, .int .i64 kk, .int .i64 mm] 31)) (.cells #[.int .i64 kn.c, .int .u64 kn.wd, .int .u64 kn.vr, .int .i64 kn.n.lv, .string kn.n.lo, .string kn.n.hi, .bool kn.n.la, .int .i64 kn.n.nx, .slice ak kn.n.ks.length ck, .slice av kn.n.vs.length cv, .slice ac kn.n.cs.length cc] 39)
        have n7 := BX.new (w5.alloc (.cells #[.slice ao n c, .slice so sn sc, .int .i64 kk, .int .i64 mm] 31)) 39 #[.int .i64 kn.c, .int .u64 kn.wd, .int .u64 kn.vr, .int .i64 kn.n.lv, .string kn.n.lo, .string kn.n.hi, .bool kn.n.la, .int .i64 kn.n.nx, .slice ak kn.n.ks.length ck, .slice av kn.n.vs.length cv, .slice ac kn.n.cs.length cc]
        have hx57 := (hx5.trans (hx6.mono hx5.size)).trans (hx7.mono (hx5.trans (hx6.mono hx5.size)).size)
        have hx47 := hb5.trans ((hx6.trans (hx7.mono hx6.size)).mono hb5.size)
        obtain ⟨W7, hW7⟩ : ∃ W, W = (w5.alloc (.cells #[.slice ao n c, .slice so sn sc, .int .i64 kk, .int .i64 mm] 31)).alloc (.cells #[.int .i64 kn.c, .int .u64 kn.wd, .int .u64 kn.vr, .int .i64 kn.n.lv, .string kn.n.lo, .string kn.n.hi, .bool kn.n.la, .int .i64 kn.n.nx, .slice ak kn.n.ks.length ck, .slice av kn.n.vs.length cv, .slice ac kn.n.cs.length cc] 39) := ⟨_, rfl⟩
        rw [← hW7] at hx57 n7 hx47
        rw [World.size_alloc] at n7
        have n6 := (BX.new w5 31 #[.slice ao n c, .slice so sn sc, .int .i64 kk, .int .i64 mm]).below hx7
        rw [← hW7] at n6
        have HU := Lib.hid n6
        have HB7 := Lib.hid hx57
        have HN7 := Lib.hid n7
        have HP := Lib.hid hP
        have HND := Lib.hid ((hnd.keep H0.out).keep hx57) 
        have HWAY := Lib.hid (HV.out.1.keep hx47)
        have HLT := Lib.hid (show ∀ j, (Value.slice oo on oc).ownBlock = some j → j < w5.heap.size + 1 from fun j hj => by
          obtain ⟨_, _, ho⟩ := HV.out.1
          obtain ⟨_, _, hg⟩ := fv_block ho hj
          have h1 := lt_of_block hg
          have h2 := hb5.size
          omega)
        have HW7 := Lib.hid hW7
        have HR7 := Lib.hid (Below.refl W7.heap.size W7)
        have b1 := HB.out.1.below hx57
        have a0 := b1.cell 0 rfl
        have a1 := b1.cell 1 rfl
        have a2 := b1.cell 2 rfl
        have a3 := b1.cell 3 rfl
        have y0 := b1.frozen 0
        have y1 := b1.frozen 1
        have y2 := b1.frozen 2
        have y3 := b1.frozen 3
        have HZS := Lib.hid (show (((W7.setCell ⟨w.heap.size, 0, none⟩ (.slice ao n c)).setCell ⟨w.heap.size, 1, none⟩ (.slice so sn sc)).setCell ⟨w.heap.size, 2, none⟩ (.int .i64 kk)).setCell ⟨w.heap.size, 3, none⟩ (.int .i64 mm) = W7 from by rw [setCell_same19 (i := 0) (v := .slice ao n c) b1 rfl, setCell_same19 (i := 1) (v := .slice so sn sc) b1 rfl, setCell_same19 (i := 2) (v := .int .i64 kk) b1 rfl, setCell_same19 (i := 3) (v := .int .i64 mm) b1 rfl])
        have b2 := HB.out.2.1.below hx57
        have v0 := b2.cell 0 rfl
        have v1 := b2.cell 1 rfl
        have nd7 := HN7.out
        have p0 := nd7.cell 0 rfl
        have p1 := nd7.cell 1 rfl
        have p2 := nd7.cell 2 rfl
        have p3 := nd7.cell 3 rfl
        have p4 := nd7.cell 4 rfl
        have p5 := nd7.cell 5 rfl
        have p6 := nd7.cell 6 rfl
        have p7 := nd7.cell 7 rfl
        have p8 := nd7.cell 8 rfl
        have p9 := nd7.cell 9 rfl
        have p10 := nd7.cell 10 rfl
        clear nd7
        have u0 : W7.cell? ⟨w5.heap.size, 0, none⟩ = some (.slice ao n c) := HU.out.cell 0 rfl
        have u1 := HU.out.cell 1 rfl
        have u2 := HU.out.cell 2 rfl
        have u3 := HU.out.cell 3 rfl
        have HQ := Lib.hid (fun W => rpart_any kn.n ak av ac ck cv cc kind k W HNO.out HK.out)
        have HK3 := Lib.hid (fun W (hb : Below W1.heap.size W1 W) => rkid19_any kn.n ak av ac ck cv cc kind k W ((hnd.keep H0.out).keep hb) HNO.out HK.out)
        rw [← HKN.out] at HQ HK3
        clear b1 b2 hx5 hx6 hx7 hx57 hx47 hb5 n7 n6 hP hnd hW7
        go_upto_region 8 with fail
        rw [← HW7.out]
        go_upto_region 9 with fail
        rw [HZS.out]
        clear HZS y0 y1 y2 y3 u0 u1 u2 u3
        cases ho : onF K k kn.n with
        | true =>
          have ha := on_not_astray K k kn.n ho
          have HON := Lib.hid ho
          have HAY := Lib.hid ha
          rw [ho, ha] at HQ
          clear ho ha
          go_wp2_with fail
          refine (HQ.out _).mono ?_
          rintro e w8 ⟨rfl, hb8⟩
          have H8 := Lib.hid hb8
          clear a0 a1 a2 a3 v0 v1 p0 p1 p2 p3 p4 p5 p6 p7 p8 p9 p10 hb8 HQ
          have nd := HN7.out.below H8.out
          have b1 := HB.out.1.below (HB7.out.trans (H8.out.mono HB7.out.size))
          have b2 := HB.out.2.1.below (HB7.out.trans (H8.out.mono HB7.out.size))
          have b3 := HB.out.2.2.below (HB7.out.trans (H8.out.mono HB7.out.size))
          have p0 := nd.cell 0 rfl
          have p1 := nd.cell 1 rfl
          have p2 := nd.cell 2 rfl
          have p3 := nd.cell 3 rfl
          have p4 := nd.cell 4 rfl
          have p5 := nd.cell 5 rfl
          have p6 := nd.cell 6 rfl
          have p7 := nd.cell 7 rfl
          have p8 := nd.cell 8 rfl
          have p9 := nd.cell 9 rfl
          have p10 := nd.cell 10 rfl
          have a0 := b1.cell 0 rfl
          have a1 := b1.cell 1 rfl
          have a2 := b1.cell 2 rfl
          have a3 := b1.cell 3 rfl
          have v0 := b2.cell 0 rfl
          have v1 := b2.cell 1 rfl
          have r0 := b3.cell 0 rfl
          have r1 := b3.cell 1 rfl
          have r2 := b3.cell 2 rfl
          have r3 := b3.cell 3 rfl
          have x0 := b3.frozen 0
          have x1 := b3.frozen 1
          have x2 := b3.frozen 2
          have x3 := b3.frozen 3
          clear nd b1 b2 b3
          have HB8 := Lib.hid (HB7.out.trans (H8.out.mono HB7.out.size))
          have hcase : (0 ≤ s.lv ∧ kn.n.lv ≠ s.lv) ∨ s.lv < 0 ∨ (0 ≤ s.lv ∧ kn.n.lv = s.lv) := by omega
          rcases hcase with ⟨hs0, hs1⟩ | hs0 | ⟨hs0, hs1⟩
          · have HLE := Lib.hid (show 0 ≤ s.lv ∧ kn.n.lv ≠ s.lv from ⟨hs0, hs1⟩)
            have HEND := Lib.hid (show runW K k ks most.toNat ⟨0, -1, []⟩ = .lost from by rw [HV.out.2.2]; exact runW_out (by unfold stepW; rw [HKF.out]; simp only; rw [if_pos (Or.inl HLE.out)]) HIM.out.1)
            have HLK := Lib.hid (rlack_any ao n c so sn sc kk mm 3 0 w8)
            rw [lackK_f kk 0, lackM_f kk mm 0] at HLK
            obtain ⟨k9, hk9⟩ : ∃ z, z = lackK kk false 0 := ⟨_, rfl⟩
            obtain ⟨m9, hm9⟩ : ∃ z, z = lackM kk mm false 0 := ⟨_, rfl⟩
            rw [← hk9, ← hm9] at HLK
            have HKM := Lib.hid (show _ ∧ _ from ⟨hk9, hm9⟩)
            clear hk9 hm9
            go_wp2_with fail
            refine HLK.out.mono ?_
            rintro e w19 ⟨rfl, hb19⟩
            have hb20 := HB8.out.trans (hb19.mono HB8.out.size)
            have HX9 := Lib.hid (HX.out.trans (hb20.mono HX.out.size))
            have b3 := HB.out.2.2.below hb20
            clear r0 r1 r2 r3 x0 x1 x2 x3
            have r0 := b3.cell 0 rfl
            have r1 := b3.cell 1 rfl
            have r2 := b3.cell 2 rfl
            have r3 := b3.cell 3 rfl
            have x0 := b3.frozen 0
            have x1 := b3.frozen 1
            have x2 := b3.frozen 2
            have x3 := b3.frozen 3
            clear b3 hb19 hb20
            go_wp2
            refine bodyPost_ret (v := .tuple #[.agg #[.slice ao n c, .slice so sn sc, .int .i64 k9, .int .i64 m9], .slice none 0 0, .bool false]) (by simp [results, Try.results34, go_sem, *]) rfl ?_
            refine ⟨none, 0, 0, false, k9, m9, rfl, ?_, ?_⟩
            · have hgg : w.heap.size ≤ g2 := by have := HG.out; omega
              repeat' (first | (with_reducible exact HX9.out) | (with_reducible refine Below.setCell ?_ ?_ _) | exact Nat.le_refl _ | exact hgg)
            · rw [HEND.out]
              exact ⟨rfl, rfl, HKM.out.1, HKM.out.2⟩
          · skip
            have HLE := Lib.hid (show ¬ ((0 ≤ s.lv ∧ kn.n.lv ≠ s.lv) ∨ astrayF K k kn.n = true) from by rintro (⟨hq1, hq2⟩ | hq1); (omega); (rw [HAY.out] at hq1; cases hq1))
            have hacc : on = s.acc.length := HWAY.out.ks.len.1
            obtain ⟨ls, hls, hown⟩ := HWAY.out.keep H8.out
            rw [← hacc] at hown
            have hbA : Below w8.heap.size w8 (w8.alloc (.cells #[.int .i64 kn.c, .int .u64 kn.wd, .int .u64 kn.vr, .int .i64 kn.n.lv, .string kn.n.lo, .string kn.n.hi, .bool kn.n.la, .int .i64 kn.n.nx, .slice ak kn.n.ks.length ck, .slice av kn.n.vs.length cv, .slice ac kn.n.cs.length cc] 39)) := (Below.refl _ _).alloc (Nat.le_refl _) _
            have ho1 := fv_stays hown hbA
            have hnews := World.news_of_block (cs := #[.int .i64 kn.c, .int .u64 kn.wd, .int .u64 kn.vr, .int .i64 kn.n.lv, .string kn.n.lo, .string kn.n.hi, .bool kn.n.la, .int .i64 kn.n.nx, .slice ak kn.n.ks.length ck, .slice av kn.n.vs.length cv, .slice ac kn.n.cs.length cc]) (heap_alloc_new w8 (.cells #[.int .i64 kn.c, .int .u64 kn.wd, .int .u64 kn.vr, .int .i64 kn.n.lv, .string kn.n.lo, .string kn.n.hi, .bool kn.n.la, .int .i64 kn.n.nx, .slice ak kn.n.ks.length ck, .slice av kn.n.vs.length cv, .slice ac kn.n.cs.length cc] 39))
            have hKL : KL (PV w0) [.int .i64 kn.c, .int .u64 kn.wd, .int .u64 kn.vr, .int .i64 kn.n.lv, .string kn.n.lo, .string kn.n.hi, .bool kn.n.la, .int .i64 kn.n.nx, .slice ak kn.n.ks.length ck, .slice av kn.n.vs.length cv, .slice ac kn.n.cs.length cc] kn := ⟨ak, _, ck, av, _, cv, ac, _, cc, rfl, HP.out⟩
            have hone := hKL.ones
            have HH := Lib.hid (show _ ∧ _ ∧ _ ∧ _ ∧ _ from ⟨hls, ho1, hnews, hone, hKL⟩)
            have HACC := Lib.hid hacc
            have HS9 := Lib.hid (show W1.heap.size ≤ (w8.alloc (.cells #[.int .i64 kn.c, .int .u64 kn.wd, .int .u64 kn.vr, .int .i64 kn.n.lv, .string kn.n.lo, .string kn.n.hi, .bool kn.n.la, .int .i64 kn.n.nx, .slice ak kn.n.ks.length ck, .slice av kn.n.vs.length cv, .slice ac kn.n.cs.length cc] 39)).heap.size from Nat.le_trans HB8.out.size hbA.size)
            have HB9 := Lib.hid (HB8.out.trans (hbA.mono HB8.out.size))
            have HN9 := Lib.hid ((HN7.out.below H8.out).below hbA)
            clear hown hbA ho1 hnews hone hls hKL hacc
            go_wp2_with ((with_reducible show wpList _ _ _ (⟨some 72, _, _, _, _, _⟩ :: _) _ _); refine wpList_append_own (o := ⟨some 72, _, _, _, _, _⟩) _ rfl _ _ 26 rfl W1.heap.size 39 i0 (.agg #[.int .i64 0, .int .u64 0, .int .u64 0, .int .i64 0, .string ⟨#[]⟩, .string ⟨#[]⟩, .bool false, .int .i64 0, .slice none 0 0, .slice none 0 0, .slice none 0 0]) 11 152 Try.underlying26 HI.out.1 HI.out.2.1 HI.out.2.2.1 HI.out.2.2.2 rfl (by decide) _ _ _ rfl HH.out.2.1 ⟨w8.heap.size, 0, none⟩ 1 1 [.int .i64 kn.c, .int .u64 kn.wd, .int .u64 kn.vr, .int .i64 kn.n.lv, .string kn.n.lo, .string kn.n.hi, .bool kn.n.la, .int .i64 kn.n.nx, .slice ak kn.n.ks.length ck, .slice av kn.n.vs.length cv, .slice ac kn.n.cs.length cc] rfl rfl HH.out.2.2.1 HH.out.2.2.2.1 (by unfold maxLen; omega) (by omega) HS9.out ?_)
            intro v2 w10 hown2 hgrow2 _
            have hway10 : KsR (PV w0) w10 W1.heap.size v2 (s.acc ++ [kn]) := KsR.add HH.out.1 HH.out.2.2.2.2 (by rw [← HACC.out]; exact hown2)
            have hB10 : Below W1.heap.size W1 w10 := HB9.out.grown hgrow2 HS9.out (fun j hj => (fv_block HH.out.2.1 hj).1)
            obtain ⟨oo2, oc2, rfl⟩ := hway10.open
            obtain ⟨n2, hn2⟩ : ∃ n2, n2 = (s.acc ++ [kn]).length := ⟨_, rfl⟩
            rw [← hn2] at hway10 ⊢
            have hn2' : n2 ≤ i + 1 := by
              have := HACC.out
              rw [List.length_append, List.length_singleton] at hn2
              omega
            have nd10 : BX w10 (w5.heap.size + 1) 39 #[.int .i64 kn.c, .int .u64 kn.wd, .int .u64 kn.vr, .int .i64 kn.n.lv, .string kn.n.lo, .string kn.n.hi, .bool kn.n.la, .int .i64 kn.n.nx, .slice ak kn.n.ks.length ck, .slice av kn.n.vs.length cv, .slice ac kn.n.cs.length cc] := (hgrow2.block _ (lt_of_block HN9.out) (fun e => by have := HLT.out _ e.symm; omega)).trans HN9.out
            have HWAY10 := Lib.hid hway10
            have HB10 := Lib.hid hB10
            have HND10 := Lib.hid nd10
            clear p0 p1 p2 p3 p4 p5 p6 p7 p8 p9 p10 a0 a1 a2 a3 v0 v1 r0 r1 r2 r3 x0 x1 x2 x3
            have b1 := HB.out.1.below hB10
            have b2 := HB.out.2.1.below hB10
            have b3 := HB.out.2.2.below hB10
            have p0 := nd10.cell 0 rfl
            have p1 := nd10.cell 1 rfl
            have p2 := nd10.cell 2 rfl
            have p3 := nd10.cell 3 rfl
            have p4 := nd10.cell 4 rfl
            have p5 := nd10.cell 5 rfl
            have p6 := nd10.cell 6 rfl
            have p7 := nd10.cell 7 rfl
            have p8 := nd10.cell 8 rfl
            have p9 := nd10.cell 9 rfl
            have p10 := nd10.cell 10 rfl
            have a0 := b1.cell 0 rfl
            have a1 := b1.cell 1 rfl
            have a2 := b1.cell 2 rfl
            have a3 := b1.cell 3 rfl
            have v0 := b2.cell 0 rfl
            have v1 := b2.cell 1 rfl
            have r0 := b3.cell 0 rfl
            have r1 := b3.cell 1 rfl
            have r2 := b3.cell 2 rfl
            have r3 := b3.cell 3 rfl
            have x0 := b3.frozen 0
            have x1 := b3.frozen 1
            have x2 := b3.frozen 2
            have x3 := b3.frozen 3
            clear b1 b2 b3
            clear hway10 hB10 nd10 hown2 hgrow2 hn2 HH HS9 HB9 HN9
            by_cases hz : kn.n.lv = 0
            · have HZ := Lib.hid hz
              have hz1 : kn.n.lv ≤ 0 := by omega
              have HEND := Lib.hid (show runW K k ks most.toNat ⟨0, -1, []⟩ = .done (s.acc ++ [kn]) by rw [HV.out.2.2]; exact runW_out (by unfold stepW; rw [HKF.out]; simp only; rw [if_neg HLE.out, if_neg (by rw [HON.out]; simp), if_pos (by have := HZ.out; omega)]) HIM.out.1)
              clear hz
              go_wp2
              refine bodyPost_ret (v := .tuple #[.agg #[.slice ao n c, .slice so sn sc, .int .i64 kk, .int .i64 mm], .slice oo2 n2 oc2, .bool true]) (by simp [results, Try.results34, go_sem, *]) rfl ?_
              refine ⟨oo2, n2, oc2, true, kk, mm, rfl, ?_, ?_⟩
              · have hgg : w.heap.size ≤ g2 := by have := HG.out; omega
                have hxx := HX.out.trans (HB10.out.mono HX.out.size)
                repeat' (first | (with_reducible exact hxx) | (with_reducible refine Below.setCell ?_ ?_ _) | exact Nat.le_refl _ | exact hgg)
              · rw [HEND.out]
                refine ⟨rfl, rfl, rfl, ?_⟩
                have h1 := HWAY10.out.base (C := w.heap.size) HX.out.size
                have hb3 := HB.out.2.2.below HB10.out
                have hr : ∀ (l : List (Nat × Value)) (W : World), KsR (PV w0) W w.heap.size (.slice oo2 n2 oc2) (s.acc ++ [kn]) → (∃ cs, BX W g2 31 cs) → KsR (PV w0) (wr11 W g2 l) w.heap.size (.slice oo2 n2 oc2) (s.acc ++ [kn]) := by
                  intro l
                  induction l with
                  | nil => intro W h _; exact h
                  | cons q l ih =>
                    rintro W h ⟨cs, hb⟩
                    exact ih _ (h.moved (S := fun j => j = g2) (Turn.setCell (S := fun j => j = g2) (Turn.refl _ W) (Or.inl rfl) q.2) (fun j cs' e hg => by subst e; exact bx_no hb (by decide) cs' hg)) ⟨_, hb.set q.1 q.2⟩
                exact hr [(0, _), (1, _), (2, _), (3, _)] w10 h1 ⟨_, hb3⟩
            · have hz1 : ¬ kn.n.lv ≤ 0 := by omega
              have HZ := Lib.hid (show 0 < kn.n.lv ∧ kn.n.lv < 14 by omega)
              have HQ3 := Lib.hid (HK3.out w10 HB10.out)
              go_wp2_with fail
              refine HQ3.out.mono ?_
              rintro e w11 ⟨x, bb, rfl, h3, hb11⟩
              have H3 := Lib.hid h3
              have H11 := Lib.hid hb11
              have HB11 := Lib.hid (HB10.out.trans (hb11.mono HB10.out.size))
              clear h3 hb11 HQ3
              clear p0 p1 p2 p3 p4 p5 p6 p7 p8 p9 p10 a0 a1 a2 a3 v0 v1 r0 r1 r2 r3 x0 x1 x2 x3
              have b1 := HB.out.1.below HB11.out
              have b3 := HB.out.2.2.below HB11.out
              have a0 := b1.cell 0 rfl
              have a1 := b1.cell 1 rfl
              have a2 := b1.cell 2 rfl
              have a3 := b1.cell 3 rfl
              have r0 := b3.cell 0 rfl
              have r1 := b3.cell 1 rfl
              have r2 := b3.cell 2 rfl
              have r3 := b3.cell 3 rfl
              have x0 := b3.frozen 0
              have x1 := b3.frozen 1
              have x2 := b3.frozen 2
              have x3 := b3.frozen 3
              clear b1 b3
              cases bb with
              | false =>
                have HEND := Lib.hid (show runW K k ks most.toNat ⟨0, -1, []⟩ = .lost from by rw [HV.out.2.2]; exact runW_out (by unfold stepW; rw [HKF.out]; simp only; rw [if_neg HLE.out, if_neg (by rw [HON.out]; simp), if_neg (by have := HZ.out; omega), H3.out]; rfl) HIM.out.1)
                have HLK := Lib.hid (rlack_any ao n c so sn sc kk mm 3 0 w11)
                rw [lackK_f kk 0, lackM_f kk mm 0] at HLK
                obtain ⟨k9, hk9⟩ : ∃ z, z = lackK kk false 0 := ⟨_, rfl⟩
                obtain ⟨m9, hm9⟩ : ∃ z, z = lackM kk mm false 0 := ⟨_, rfl⟩
                rw [← hk9, ← hm9] at HLK
                have HKM := Lib.hid (show _ ∧ _ from ⟨hk9, hm9⟩)
                clear hk9 hm9
                go_wp2_with fail
                refine HLK.out.mono ?_
                rintro e w19 ⟨rfl, hb19⟩
                have hb20 := HB11.out.trans (hb19.mono HB11.out.size)
                have HX9 := Lib.hid (HX.out.trans (hb20.mono HX.out.size))
                have b3 := HB.out.2.2.below hb20
                clear r0 r1 r2 r3 x0 x1 x2 x3
                have r0 := b3.cell 0 rfl
                have r1 := b3.cell 1 rfl
                have r2 := b3.cell 2 rfl
                have r3 := b3.cell 3 rfl
                have x0 := b3.frozen 0
                have x1 := b3.frozen 1
                have x2 := b3.frozen 2
                have x3 := b3.frozen 3
                clear b3 hb19 hb20
                go_wp2
                refine bodyPost_ret (v := .tuple #[.agg #[.slice ao n c, .slice so sn sc, .int .i64 k9, .int .i64 m9], .slice none 0 0, .bool false]) (by simp [results, Try.results34, go_sem, *]) rfl ?_
                refine ⟨none, 0, 0, false, k9, m9, rfl, ?_, ?_⟩
                · have hgg : w.heap.size ≤ g2 := by have := HG.out; omega
                  repeat' (first | (with_reducible exact HX9.out) | (with_reducible refine Below.setCell ?_ ?_ _) | exact Nat.le_refl _ | exact hgg)
                · rw [HEND.out]
                  exact ⟨rfl, rfl, HKM.out.1, HKM.out.2⟩
              | true =>
                have HNX := Lib.hid (show runW K k ks most.toNat ⟨0, -1, []⟩ = runW K k ks (most.toNat - (i + 1)) ⟨x, kn.n.lv - 1, s.acc ++ [kn]⟩ by rw [HV.out.2.2, show most.toNat - (i + 1) = most.toNat - i - 1 by omega]; exact runW_next (by unfold stepW; rw [HKF.out]; simp only; rw [if_neg HLE.out, if_neg (by rw [HON.out]; simp), if_neg (by have := HZ.out; omega), H3.out]; rfl) HIM.out.1)
                go_wp2
                go_roundw
                case rel => exact ⟨i + 1, ⟨x, kn.n.lv - 1, s.acc ++ [kn]⟩, oo2, n2, oc2, rfl, rfl, rfl, by go_num, by omega, by omega, by show -1 ≤ kn.n.lv - 1; have := HZ.out; omega, Lib.hid ⟨HWAY10.out.keep H11.out, HB11.out, HNX.out⟩⟩
                case measure => simp [intOf]; omega
          · replace hs1 := hs1.symm
            have HLE := Lib.hid (show ¬ ((0 ≤ s.lv ∧ kn.n.lv ≠ s.lv) ∨ astrayF K k kn.n = true) from by rintro (⟨hq1, hq2⟩ | hq1); (omega); (rw [HAY.out] at hq1; cases hq1))
            have hacc : on = s.acc.length := HWAY.out.ks.len.1
            obtain ⟨ls, hls, hown⟩ := HWAY.out.keep H8.out
            rw [← hacc] at hown
            have hbA : Below w8.heap.size w8 (w8.alloc (.cells #[.int .i64 kn.c, .int .u64 kn.wd, .int .u64 kn.vr, .int .i64 kn.n.lv, .string kn.n.lo, .string kn.n.hi, .bool kn.n.la, .int .i64 kn.n.nx, .slice ak kn.n.ks.length ck, .slice av kn.n.vs.length cv, .slice ac kn.n.cs.length cc] 39)) := (Below.refl _ _).alloc (Nat.le_refl _) _
            have ho1 := fv_stays hown hbA
            have hnews := World.news_of_block (cs := #[.int .i64 kn.c, .int .u64 kn.wd, .int .u64 kn.vr, .int .i64 kn.n.lv, .string kn.n.lo, .string kn.n.hi, .bool kn.n.la, .int .i64 kn.n.nx, .slice ak kn.n.ks.length ck, .slice av kn.n.vs.length cv, .slice ac kn.n.cs.length cc]) (heap_alloc_new w8 (.cells #[.int .i64 kn.c, .int .u64 kn.wd, .int .u64 kn.vr, .int .i64 kn.n.lv, .string kn.n.lo, .string kn.n.hi, .bool kn.n.la, .int .i64 kn.n.nx, .slice ak kn.n.ks.length ck, .slice av kn.n.vs.length cv, .slice ac kn.n.cs.length cc] 39))
            have hKL : KL (PV w0) [.int .i64 kn.c, .int .u64 kn.wd, .int .u64 kn.vr, .int .i64 kn.n.lv, .string kn.n.lo, .string kn.n.hi, .bool kn.n.la, .int .i64 kn.n.nx, .slice ak kn.n.ks.length ck, .slice av kn.n.vs.length cv, .slice ac kn.n.cs.length cc] kn := ⟨ak, _, ck, av, _, cv, ac, _, cc, rfl, HP.out⟩
            have hone := hKL.ones
            have HH := Lib.hid (show _ ∧ _ ∧ _ ∧ _ ∧ _ from ⟨hls, ho1, hnews, hone, hKL⟩)
            have HACC := Lib.hid hacc
            have HS9 := Lib.hid (show W1.heap.size ≤ (w8.alloc (.cells #[.int .i64 kn.c, .int .u64 kn.wd, .int .u64 kn.vr, .int .i64 kn.n.lv, .string kn.n.lo, .string kn.n.hi, .bool kn.n.la, .int .i64 kn.n.nx, .slice ak kn.n.ks.length ck, .slice av kn.n.vs.length cv, .slice ac kn.n.cs.length cc] 39)).heap.size from Nat.le_trans HB8.out.size hbA.size)
            have HB9 := Lib.hid (HB8.out.trans (hbA.mono HB8.out.size))
            have HN9 := Lib.hid ((HN7.out.below H8.out).below hbA)
            clear hown hbA ho1 hnews hone hls hKL hacc
            go_wp2_with ((with_reducible show wpList _ _ _ (⟨some 72, _, _, _, _, _⟩ :: _) _ _); refine wpList_append_own (o := ⟨some 72, _, _, _, _, _⟩) _ rfl _ _ 26 rfl W1.heap.size 39 i0 (.agg #[.int .i64 0, .int .u64 0, .int .u64 0, .int .i64 0, .string ⟨#[]⟩, .string ⟨#[]⟩, .bool false, .int .i64 0, .slice none 0 0, .slice none 0 0, .slice none 0 0]) 11 152 Try.underlying26 HI.out.1 HI.out.2.1 HI.out.2.2.1 HI.out.2.2.2 rfl (by decide) _ _ _ rfl HH.out.2.1 ⟨w8.heap.size, 0, none⟩ 1 1 [.int .i64 kn.c, .int .u64 kn.wd, .int .u64 kn.vr, .int .i64 kn.n.lv, .string kn.n.lo, .string kn.n.hi, .bool kn.n.la, .int .i64 kn.n.nx, .slice ak kn.n.ks.length ck, .slice av kn.n.vs.length cv, .slice ac kn.n.cs.length cc] rfl rfl HH.out.2.2.1 HH.out.2.2.2.1 (by unfold maxLen; omega) (by omega) HS9.out ?_)
            intro v2 w10 hown2 hgrow2 _
            have hway10 : KsR (PV w0) w10 W1.heap.size v2 (s.acc ++ [kn]) := KsR.add HH.out.1 HH.out.2.2.2.2 (by rw [← HACC.out]; exact hown2)
            have hB10 : Below W1.heap.size W1 w10 := HB9.out.grown hgrow2 HS9.out (fun j hj => (fv_block HH.out.2.1 hj).1)
            obtain ⟨oo2, oc2, rfl⟩ := hway10.open
            obtain ⟨n2, hn2⟩ : ∃ n2, n2 = (s.acc ++ [kn]).length := ⟨_, rfl⟩
            rw [← hn2] at hway10 ⊢
            have hn2' : n2 ≤ i + 1 := by
              have := HACC.out
              rw [List.length_append, List.length_singleton] at hn2
              omega
            have nd10 : BX w10 (w5.heap.size + 1) 39 #[.int .i64 kn.c, .int .u64 kn.wd, .int .u64 kn.vr, .int .i64 kn.n.lv, .string kn.n.lo, .string kn.n.hi, .bool kn.n.la, .int .i64 kn.n.nx, .slice ak kn.n.ks.length ck, .slice av kn.n.vs.length cv, .slice ac kn.n.cs.length cc] := (hgrow2.block _ (lt_of_block HN9.out) (fun e => by have := HLT.out _ e.symm; omega)).trans HN9.out
            have HWAY10 := Lib.hid hway10
            have HB10 := Lib.hid hB10
            have HND10 := Lib.hid nd10
            clear p0 p1 p2 p3 p4 p5 p6 p7 p8 p9 p10 a0 a1 a2 a3 v0 v1 r0 r1 r2 r3 x0 x1 x2 x3
            have b1 := HB.out.1.below hB10
            have b2 := HB.out.2.1.below hB10
            have b3 := HB.out.2.2.below hB10
            have p0 := nd10.cell 0 rfl
            have p1 := nd10.cell 1 rfl
            have p2 := nd10.cell 2 rfl
            have p3 := nd10.cell 3 rfl
            have p4 := nd10.cell 4 rfl
            have p5 := nd10.cell 5 rfl
            have p6 := nd10.cell 6 rfl
            have p7 := nd10.cell 7 rfl
            have p8 := nd10.cell 8 rfl
            have p9 := nd10.cell 9 rfl
            have p10 := nd10.cell 10 rfl
            have a0 := b1.cell 0 rfl
            have a1 := b1.cell 1 rfl
            have a2 := b1.cell 2 rfl
            have a3 := b1.cell 3 rfl
            have v0 := b2.cell 0 rfl
            have v1 := b2.cell 1 rfl
            have r0 := b3.cell 0 rfl
            have r1 := b3.cell 1 rfl
            have r2 := b3.cell 2 rfl
            have r3 := b3.cell 3 rfl
            have x0 := b3.frozen 0
            have x1 := b3.frozen 1
            have x2 := b3.frozen 2
            have x3 := b3.frozen 3
            clear b1 b2 b3
            clear hway10 hB10 nd10 hown2 hgrow2 hn2 HH HS9 HB9 HN9
            by_cases hz : kn.n.lv = 0
            · have HZ := Lib.hid hz
              have hz1 : kn.n.lv ≤ 0 := by omega
              have HEND := Lib.hid (show runW K k ks most.toNat ⟨0, -1, []⟩ = .done (s.acc ++ [kn]) by rw [HV.out.2.2]; exact runW_out (by unfold stepW; rw [HKF.out]; simp only; rw [if_neg HLE.out, if_neg (by rw [HON.out]; simp), if_pos (by have := HZ.out; omega)]) HIM.out.1)
              clear hz
              go_wp2
              refine bodyPost_ret (v := .tuple #[.agg #[.slice ao n c, .slice so sn sc, .int .i64 kk, .int .i64 mm], .slice oo2 n2 oc2, .bool true]) (by simp [results, Try.results34, go_sem, *]) rfl ?_
              refine ⟨oo2, n2, oc2, true, kk, mm, rfl, ?_, ?_⟩
              · have hgg : w.heap.size ≤ g2 := by have := HG.out; omega
                have hxx := HX.out.trans (HB10.out.mono HX.out.size)
                repeat' (first | (with_reducible exact hxx) | (with_reducible refine Below.setCell ?_ ?_ _) | exact Nat.le_refl _ | exact hgg)
              · rw [HEND.out]
                refine ⟨rfl, rfl, rfl, ?_⟩
                have h1 := HWAY10.out.base (C := w.heap.size) HX.out.size
                have hb3 := HB.out.2.2.below HB10.out
                have hr : ∀ (l : List (Nat × Value)) (W : World), KsR (PV w0) W w.heap.size (.slice oo2 n2 oc2) (s.acc ++ [kn]) → (∃ cs, BX W g2 31 cs) → KsR (PV w0) (wr11 W g2 l) w.heap.size (.slice oo2 n2 oc2) (s.acc ++ [kn]) := by
                  intro l
                  induction l with
                  | nil => intro W h _; exact h
                  | cons q l ih =>
                    rintro W h ⟨cs, hb⟩
                    exact ih _ (h.moved (S := fun j => j = g2) (Turn.setCell (S := fun j => j = g2) (Turn.refl _ W) (Or.inl rfl) q.2) (fun j cs' e hg => by subst e; exact bx_no hb (by decide) cs' hg)) ⟨_, hb.set q.1 q.2⟩
                exact hr [(0, _), (1, _), (2, _), (3, _)] w10 h1 ⟨_, hb3⟩
            · have hz1 : ¬ kn.n.lv ≤ 0 := by omega
              have HZ := Lib.hid (show 0 < kn.n.lv ∧ kn.n.lv < 14 by omega)
              have HQ3 := Lib.hid (HK3.out w10 HB10.out)
              go_wp2_with fail
              refine HQ3.out.mono ?_
              rintro e w11 ⟨x, bb, rfl, h3, hb11⟩
              have H3 := Lib.hid h3
              have H11 := Lib.hid hb11
              have HB11 := Lib.hid (HB10.out.trans (hb11.mono HB10.out.size))
              clear h3 hb11 HQ3
              clear p0 p1 p2 p3 p4 p5 p6 p7 p8 p9 p10 a0 a1 a2 a3 v0 v1 r0 r1 r2 r3 x0 x1 x2 x3
              have b1 := HB.out.1.below HB11.out
              have b3 := HB.out.2.2.below HB11.out
              have a0 := b1.cell 0 rfl
              have a1 := b1.cell 1 rfl
              have a2 := b1.cell 2 rfl
              have a3 := b1.cell 3 rfl
              have r0 := b3.cell 0 rfl
              have r1 := b3.cell 1 rfl
              have r2 := b3.cell 2 rfl
              have r3 := b3.cell 3 rfl
              have x0 := b3.frozen 0
              have x1 := b3.frozen 1
              have x2 := b3.frozen 2
              have x3 := b3.frozen 3
              clear b1 b3
              cases bb with
              | false =>
                have HEND := Lib.hid (show runW K k ks most.toNat ⟨0, -1, []⟩ = .lost from by rw [HV.out.2.2]; exact runW_out (by unfold stepW; rw [HKF.out]; simp only; rw [if_neg HLE.out, if_neg (by rw [HON.out]; simp), if_neg (by have := HZ.out; omega), H3.out]; rfl) HIM.out.1)
                have HLK := Lib.hid (rlack_any ao n c so sn sc kk mm 3 0 w11)
                rw [lackK_f kk 0, lackM_f kk mm 0] at HLK
                obtain ⟨k9, hk9⟩ : ∃ z, z = lackK kk false 0 := ⟨_, rfl⟩
                obtain ⟨m9, hm9⟩ : ∃ z, z = lackM kk mm false 0 := ⟨_, rfl⟩
                rw [← hk9, ← hm9] at HLK
                have HKM := Lib.hid (show _ ∧ _ from ⟨hk9, hm9⟩)
                clear hk9 hm9
                go_wp2_with fail
                refine HLK.out.mono ?_
                rintro e w19 ⟨rfl, hb19⟩
                have hb20 := HB11.out.trans (hb19.mono HB11.out.size)
                have HX9 := Lib.hid (HX.out.trans (hb20.mono HX.out.size))
                have b3 := HB.out.2.2.below hb20
                clear r0 r1 r2 r3 x0 x1 x2 x3
                have r0 := b3.cell 0 rfl
                have r1 := b3.cell 1 rfl
                have r2 := b3.cell 2 rfl
                have r3 := b3.cell 3 rfl
                have x0 := b3.frozen 0
                have x1 := b3.frozen 1
                have x2 := b3.frozen 2
                have x3 := b3.frozen 3
                clear b3 hb19 hb20
                go_wp2
                refine bodyPost_ret (v := .tuple #[.agg #[.slice ao n c, .slice so sn sc, .int .i64 k9, .int .i64 m9], .slice none 0 0, .bool false]) (by simp [results, Try.results34, go_sem, *]) rfl ?_
                refine ⟨none, 0, 0, false, k9, m9, rfl, ?_, ?_⟩
                · have hgg : w.heap.size ≤ g2 := by have := HG.out; omega
                  repeat' (first | (with_reducible exact HX9.out) | (with_reducible refine Below.setCell ?_ ?_ _) | exact Nat.le_refl _ | exact hgg)
                · rw [HEND.out]
                  exact ⟨rfl, rfl, HKM.out.1, HKM.out.2⟩
              | true =>
                have HNX := Lib.hid (show runW K k ks most.toNat ⟨0, -1, []⟩ = runW K k ks (most.toNat - (i + 1)) ⟨x, kn.n.lv - 1, s.acc ++ [kn]⟩ by rw [HV.out.2.2, show most.toNat - (i + 1) = most.toNat - i - 1 by omega]; exact runW_next (by unfold stepW; rw [HKF.out]; simp only; rw [if_neg HLE.out, if_neg (by rw [HON.out]; simp), if_neg (by have := HZ.out; omega), H3.out]; rfl) HIM.out.1)
                go_wp2
                go_roundw
                case rel => exact ⟨i + 1, ⟨x, kn.n.lv - 1, s.acc ++ [kn]⟩, oo2, n2, oc2, rfl, rfl, rfl, by go_num, by omega, by omega, by show -1 ≤ kn.n.lv - 1; have := HZ.out; omega, Lib.hid ⟨HWAY10.out.keep H11.out, HB11.out, HNX.out⟩⟩
                case measure => simp [intOf]; omega
        | false =>
          cases ha : astrayF K k kn.n with
          | true =>
            have HON := Lib.hid ho
            have HAY := Lib.hid ha
            rw [ho, ha] at HQ
            clear ho ha
            go_wp2_with fail
            refine (HQ.out _).mono ?_
            rintro e w8 ⟨rfl, hb8⟩
            have H8 := Lib.hid hb8
            clear a0 a1 a2 a3 v0 v1 p0 p1 p2 p3 p4 p5 p6 p7 p8 p9 p10 hb8 HQ
            have nd := HN7.out.below H8.out
            have b1 := HB.out.1.below (HB7.out.trans (H8.out.mono HB7.out.size))
            have b2 := HB.out.2.1.below (HB7.out.trans (H8.out.mono HB7.out.size))
            have b3 := HB.out.2.2.below (HB7.out.trans (H8.out.mono HB7.out.size))
            have p0 := nd.cell 0 rfl
            have p1 := nd.cell 1 rfl
            have p2 := nd.cell 2 rfl
            have p3 := nd.cell 3 rfl
            have p4 := nd.cell 4 rfl
            have p5 := nd.cell 5 rfl
            have p6 := nd.cell 6 rfl
            have p7 := nd.cell 7 rfl
            have p8 := nd.cell 8 rfl
            have p9 := nd.cell 9 rfl
            have p10 := nd.cell 10 rfl
            have a0 := b1.cell 0 rfl
            have a1 := b1.cell 1 rfl
            have a2 := b1.cell 2 rfl
            have a3 := b1.cell 3 rfl
            have v0 := b2.cell 0 rfl
            have v1 := b2.cell 1 rfl
            have r0 := b3.cell 0 rfl
            have r1 := b3.cell 1 rfl
            have r2 := b3.cell 2 rfl
            have r3 := b3.cell 3 rfl
            have x0 := b3.frozen 0
            have x1 := b3.frozen 1
            have x2 := b3.frozen 2
            have x3 := b3.frozen 3
            clear nd b1 b2 b3
            have HB8 := Lib.hid (HB7.out.trans (H8.out.mono HB7.out.size))
            have HEND0 := Lib.hid (show runW K k ks most.toNat ⟨0, -1, []⟩ = .lost by rw [HV.out.2.2]; exact runW_out (by unfold stepW; rw [HKF.out]; simp only; rw [if_pos (Or.inr HAY.out)]) HIM.out.1)
            have hcase : (0 ≤ s.lv ∧ kn.n.lv ≠ s.lv) ∨ s.lv < 0 ∨ (0 ≤ s.lv ∧ kn.n.lv = s.lv) := by omega
            rcases hcase with ⟨hs0, hs1⟩ | hs0 | ⟨hs0, hs1⟩
            · skip
              have HEND := Lib.hid (show runW K k ks most.toNat ⟨0, -1, []⟩ = .lost from HEND0.out)
              have HLK := Lib.hid (rlack_any ao n c so sn sc kk mm 3 0 w8)
              rw [lackK_f kk 0, lackM_f kk mm 0] at HLK
              obtain ⟨k9, hk9⟩ : ∃ z, z = lackK kk false 0 := ⟨_, rfl⟩
              obtain ⟨m9, hm9⟩ : ∃ z, z = lackM kk mm false 0 := ⟨_, rfl⟩
              rw [← hk9, ← hm9] at HLK
              have HKM := Lib.hid (show _ ∧ _ from ⟨hk9, hm9⟩)
              clear hk9 hm9
              go_wp2_with fail
              refine HLK.out.mono ?_
              rintro e w19 ⟨rfl, hb19⟩
              have hb20 := HB8.out.trans (hb19.mono HB8.out.size)
              have HX9 := Lib.hid (HX.out.trans (hb20.mono HX.out.size))
              have b3 := HB.out.2.2.below hb20
              clear r0 r1 r2 r3 x0 x1 x2 x3
              have r0 := b3.cell 0 rfl
              have r1 := b3.cell 1 rfl
              have r2 := b3.cell 2 rfl
              have r3 := b3.cell 3 rfl
              have x0 := b3.frozen 0
              have x1 := b3.frozen 1
              have x2 := b3.frozen 2
              have x3 := b3.frozen 3
              clear b3 hb19 hb20
              go_wp2
              refine bodyPost_ret (v := .tuple #[.agg #[.slice ao n c, .slice so sn sc, .int .i64 k9, .int .i64 m9], .slice none 0 0, .bool false]) (by simp [results, Try.results34, go_sem, *]) rfl ?_
              refine ⟨none, 0, 0, false, k9, m9, rfl, ?_, ?_⟩
              · have hgg : w.heap.size ≤ g2 := by have := HG.out; omega
                repeat' (first | (with_reducible exact HX9.out) | (with_reducible refine Below.setCell ?_ ?_ _) | exact Nat.le_refl _ | exact hgg)
              · rw [HEND.out]
                exact ⟨rfl, rfl, HKM.out.1, HKM.out.2⟩
            · skip
              have HEND := Lib.hid (show runW K k ks most.toNat ⟨0, -1, []⟩ = .lost from HEND0.out)
              have HLK := Lib.hid (rlack_any ao n c so sn sc kk mm 3 0 w8)
              rw [lackK_f kk 0, lackM_f kk mm 0] at HLK
              obtain ⟨k9, hk9⟩ : ∃ z, z = lackK kk false 0 := ⟨_, rfl⟩
              obtain ⟨m9, hm9⟩ : ∃ z, z = lackM kk mm false 0 := ⟨_, rfl⟩
              rw [← hk9, ← hm9] at HLK
              have HKM := Lib.hid (show _ ∧ _ from ⟨hk9, hm9⟩)
              clear hk9 hm9
              go_wp2_with fail
              refine HLK.out.mono ?_
              rintro e w19 ⟨rfl, hb19⟩
              have hb20 := HB8.out.trans (hb19.mono HB8.out.size)
              have HX9 := Lib.hid (HX.out.trans (hb20.mono HX.out.size))
              have b3 := HB.out.2.2.below hb20
              clear r0 r1 r2 r3 x0 x1 x2 x3
              have r0 := b3.cell 0 rfl
              have r1 := b3.cell 1 rfl
              have r2 := b3.cell 2 rfl
              have r3 := b3.cell 3 rfl
              have x0 := b3.frozen 0
              have x1 := b3.frozen 1
              have x2 := b3.frozen 2
              have x3 := b3.frozen 3
              clear b3 hb19 hb20
              go_wp2
              refine bodyPost_ret (v := .tuple #[.agg #[.slice ao n c, .slice so sn sc, .int .i64 k9, .int .i64 m9], .slice none 0 0, .bool false]) (by simp [results, Try.results34, go_sem, *]) rfl ?_
              refine ⟨none, 0, 0, false, k9, m9, rfl, ?_, ?_⟩
              · have hgg : w.heap.size ≤ g2 := by have := HG.out; omega
                repeat' (first | (with_reducible exact HX9.out) | (with_reducible refine Below.setCell ?_ ?_ _) | exact Nat.le_refl _ | exact hgg)
              · rw [HEND.out]
                exact ⟨rfl, rfl, HKM.out.1, HKM.out.2⟩
            · skip
              have HEND := Lib.hid (show runW K k ks most.toNat ⟨0, -1, []⟩ = .lost from HEND0.out)
              have HLK := Lib.hid (rlack_any ao n c so sn sc kk mm 3 0 w8)
              rw [lackK_f kk 0, lackM_f kk mm 0] at HLK
              obtain ⟨k9, hk9⟩ : ∃ z, z = lackK kk false 0 := ⟨_, rfl⟩
              obtain ⟨m9, hm9⟩ : ∃ z, z = lackM kk mm false 0 := ⟨_, rfl⟩
              rw [← hk9, ← hm9] at HLK
              have HKM := Lib.hid (show _ ∧ _ from ⟨hk9, hm9⟩)
              clear hk9 hm9
              go_wp2_with fail
              refine HLK.out.mono ?_
              rintro e w19 ⟨rfl, hb19⟩
              have hb20 := HB8.out.trans (hb19.mono HB8.out.size)
              have HX9 := Lib.hid (HX.out.trans (hb20.mono HX.out.size))
              have b3 := HB.out.2.2.below hb20
              clear r0 r1 r2 r3 x0 x1 x2 x3
              have r0 := b3.cell 0 rfl
              have r1 := b3.cell 1 rfl
              have r2 := b3.cell 2 rfl
              have r3 := b3.cell 3 rfl
              have x0 := b3.frozen 0
              have x1 := b3.frozen 1
              have x2 := b3.frozen 2
              have x3 := b3.frozen 3
              clear b3 hb19 hb20
              go_wp2
              refine bodyPost_ret (v := .tuple #[.agg #[.slice ao n c, .slice so sn sc, .int .i64 k9, .int .i64 m9], .slice none 0 0, .bool false]) (by simp [results, Try.results34, go_sem, *]) rfl ?_
              refine ⟨none, 0, 0, false, k9, m9, rfl, ?_, ?_⟩
              · have hgg : w.heap.size ≤ g2 := by have := HG.out; omega
                repeat' (first | (with_reducible exact HX9.out) | (with_reducible refine Below.setCell ?_ ?_ _) | exact Nat.le_refl _ | exact hgg)
              · rw [HEND.out]
                exact ⟨rfl, rfl, HKM.out.1, HKM.out.2⟩
          | false =>
            have HON := Lib.hid ho
            have HAY := Lib.hid ha
            rw [ho, ha] at HQ
            clear ho ha
            go_wp2_with fail
            refine (HQ.out _).mono ?_
            rintro e w8 ⟨rfl, hb8⟩
            have H8 := Lib.hid hb8
            clear a0 a1 a2 a3 v0 v1 p0 p1 p2 p3 p4 p5 p6 p7 p8 p9 p10 hb8 HQ
            have nd := HN7.out.below H8.out
            have b1 := HB.out.1.below (HB7.out.trans (H8.out.mono HB7.out.size))
            have b2 := HB.out.2.1.below (HB7.out.trans (H8.out.mono HB7.out.size))
            have b3 := HB.out.2.2.below (HB7.out.trans (H8.out.mono HB7.out.size))
            have p0 := nd.cell 0 rfl
            have p1 := nd.cell 1 rfl
            have p2 := nd.cell 2 rfl
            have p3 := nd.cell 3 rfl
            have p4 := nd.cell 4 rfl
            have p5 := nd.cell 5 rfl
            have p6 := nd.cell 6 rfl
            have p7 := nd.cell 7 rfl
            have p8 := nd.cell 8 rfl
            have p9 := nd.cell 9 rfl
            have p10 := nd.cell 10 rfl
            have a0 := b1.cell 0 rfl
            have a1 := b1.cell 1 rfl
            have a2 := b1.cell 2 rfl
            have a3 := b1.cell 3 rfl
            have v0 := b2.cell 0 rfl
            have v1 := b2.cell 1 rfl
            have r0 := b3.cell 0 rfl
            have r1 := b3.cell 1 rfl
            have r2 := b3.cell 2 rfl
            have r3 := b3.cell 3 rfl
            have x0 := b3.frozen 0
            have x1 := b3.frozen 1
            have x2 := b3.frozen 2
            have x3 := b3.frozen 3
            clear nd b1 b2 b3
            have HB8 := Lib.hid (HB7.out.trans (H8.out.mono HB7.out.size))
            have hcase : (0 ≤ s.lv ∧ kn.n.lv ≠ s.lv) ∨ s.lv < 0 ∨ (0 ≤ s.lv ∧ kn.n.lv = s.lv) := by omega
            rcases hcase with ⟨hs0, hs1⟩ | hs0 | ⟨hs0, hs1⟩
            · have HLE := Lib.hid (show 0 ≤ s.lv ∧ kn.n.lv ≠ s.lv from ⟨hs0, hs1⟩)
              have HEND := Lib.hid (show runW K k ks most.toNat ⟨0, -1, []⟩ = .lost from by rw [HV.out.2.2]; exact runW_out (by unfold stepW; rw [HKF.out]; simp only; rw [if_pos (Or.inl HLE.out)]) HIM.out.1)
              have HLK := Lib.hid (rlack_any ao n c so sn sc kk mm 3 0 w8)
              rw [lackK_f kk 0, lackM_f kk mm 0] at HLK
              obtain ⟨k9, hk9⟩ : ∃ z, z = lackK kk false 0 := ⟨_, rfl⟩
              obtain ⟨m9, hm9⟩ : ∃ z, z = lackM kk mm false 0 := ⟨_, rfl⟩
              rw [← hk9, ← hm9] at HLK
              have HKM := Lib.hid (show _ ∧ _ from ⟨hk9, hm9⟩)
              clear hk9 hm9
              go_wp2_with fail
              refine HLK.out.mono ?_
              rintro e w19 ⟨rfl, hb19⟩
              have hb20 := HB8.out.trans (hb19.mono HB8.out.size)
              have HX9 := Lib.hid (HX.out.trans (hb20.mono HX.out.size))
              have b3 := HB.out.2.2.below hb20
              clear r0 r1 r2 r3 x0 x1 x2 x3
              have r0 := b3.cell 0 rfl
              have r1 := b3.cell 1 rfl
              have r2 := b3.cell 2 rfl
              have r3 := b3.cell 3 rfl
              have x0 := b3.frozen 0
              have x1 := b3.frozen 1
              have x2 := b3.frozen 2
              have x3 := b3.frozen 3
              clear b3 hb19 hb20
              go_wp2
              refine bodyPost_ret (v := .tuple #[.agg #[.slice ao n c, .slice so sn sc, .int .i64 k9, .int .i64 m9], .slice none 0 0, .bool false]) (by simp [results, Try.results34, go_sem, *]) rfl ?_
              refine ⟨none, 0, 0, false, k9, m9, rfl, ?_, ?_⟩
              · have hgg : w.heap.size ≤ g2 := by have := HG.out; omega
                repeat' (first | (with_reducible exact HX9.out) | (with_reducible refine Below.setCell ?_ ?_ _) | exact Nat.le_refl _ | exact hgg)
              · rw [HEND.out]
                exact ⟨rfl, rfl, HKM.out.1, HKM.out.2⟩
            · skip
              have HLE := Lib.hid (show ¬ ((0 ≤ s.lv ∧ kn.n.lv ≠ s.lv) ∨ astrayF K k kn.n = true) from by rintro (⟨hq1, hq2⟩ | hq1); (omega); (rw [HAY.out] at hq1; cases hq1))
              have HNX := Lib.hid (show runW K k ks most.toNat ⟨0, -1, []⟩ = runW K k ks (most.toNat - (i + 1)) ⟨kn.n.nx, kn.n.lv, s.acc⟩ by rw [HV.out.2.2, show most.toNat - (i + 1) = most.toNat - i - 1 by omega]; exact runW_next (by unfold stepW; rw [HKF.out]; simp only; rw [if_neg HLE.out, if_pos HON.out]) HIM.out.1)
              go_wp2
              go_roundw
              case rel => exact ⟨i + 1, ⟨kn.n.nx, kn.n.lv, s.acc⟩, oo, on, oc, rfl, rfl, rfl, by go_num, by omega, by omega, by show -1 ≤ kn.n.lv; omega, Lib.hid ⟨HWAY.out.keep H8.out, HB8.out, HNX.out⟩⟩
              case measure => simp [intOf]; omega
            · replace hs1 := hs1.symm
              have HLE := Lib.hid (show ¬ ((0 ≤ s.lv ∧ kn.n.lv ≠ s.lv) ∨ astrayF K k kn.n = true) from by rintro (⟨hq1, hq2⟩ | hq1); (omega); (rw [HAY.out] at hq1; cases hq1))
              have HNX := Lib.hid (show runW K k ks most.toNat ⟨0, -1, []⟩ = runW K k ks (most.toNat - (i + 1)) ⟨kn.n.nx, kn.n.lv, s.acc⟩ by rw [HV.out.2.2, show most.toNat - (i + 1) = most.toNat - i - 1 by omega]; exact runW_next (by unfold stepW; rw [HKF.out]; simp only; rw [if_neg HLE.out, if_pos HON.out]) HIM.out.1)
              go_wp2
              go_roundw
              case rel => exact ⟨i + 1, ⟨kn.n.nx, kn.n.lv, s.acc⟩, oo, on, oc, rfl, rfl, rfl, by go_num, by omega, by omega, by show -1 ≤ kn.n.lv; omega, Lib.hid ⟨HWAY.out.keep H8.out, HB8.out, HNX.out⟩⟩
              case measure => simp [intOf]; omega
    · have HE0 := Lib.hid (show runW K k ks most.toNat ⟨0, -1, []⟩ = .lost by rw [HV.out.2.2, show most.toNat - i = 0 by omega]; rfl)
      have b1 := HB.out.1.below HV.out.2.1
      have b3 := HB.out.2.2.below HV.out.2.1
      have a0 := b1.cell 0 rfl
      have a1 := b1.cell 1 rfl
      have a2 := b1.cell 2 rfl
      have a3 := b1.cell 3 rfl
      have r0 := b3.cell 0 rfl
      have r1 := b3.cell 1 rfl
      have r2 := b3.cell 2 rfl
      have r3 := b3.cell 3 rfl
      have x0 := b3.frozen 0
      have x1 := b3.frozen 1
      have x2 := b3.frozen 2
      have x3 := b3.frozen 3
      have HBV := Lib.hid HV.out.2.1
      clear b1 b3
      have HEND := Lib.hid (show runW K k ks most.toNat ⟨0, -1, []⟩ = .lost from HE0.out)
      have HLK := Lib.hid (rlack_any ao n c so sn sc kk mm 3 0 wr)
      rw [lackK_f kk 0, lackM_f kk mm 0] at HLK
      obtain ⟨k9, hk9⟩ : ∃ z, z = lackK kk false 0 := ⟨_, rfl⟩
      obtain ⟨m9, hm9⟩ : ∃ z, z = lackM kk mm false 0 := ⟨_, rfl⟩
      rw [← hk9, ← hm9] at HLK
      have HKM := Lib.hid (show _ ∧ _ from ⟨hk9, hm9⟩)
      clear hk9 hm9
      go_wp2_with fail
      refine HLK.out.mono ?_
      rintro e w19 ⟨rfl, hb19⟩
      have hb20 := HBV.out.trans (hb19.mono HBV.out.size)
      have HX9 := Lib.hid (HX.out.trans (hb20.mono HX.out.size))
      have b3 := HB.out.2.2.below hb20
      clear r0 r1 r2 r3 x0 x1 x2 x3
      have r0 := b3.cell 0 rfl
      have r1 := b3.cell 1 rfl
      have r2 := b3.cell 2 rfl
      have r3 := b3.cell 3 rfl
      have x0 := b3.frozen 0
      have x1 := b3.frozen 1
      have x2 := b3.frozen 2
      have x3 := b3.frozen 3
      clear b3 hb19 hb20
      go_wp2
      refine bodyPost_ret (v := .tuple #[.agg #[.slice ao n c, .slice so sn sc, .int .i64 k9, .int .i64 m9], .slice none 0 0, .bool false]) (by simp [results, Try.results34, go_sem, *]) rfl ?_
      refine ⟨none, 0, 0, false, k9, m9, rfl, ?_, ?_⟩
      · have hgg : w.heap.size ≤ g2 := by have := HG.out; omega
        repeat' (first | (with_reducible exact HX9.out) | (with_reducible refine Below.setCell ?_ ?_ _) | exact Nat.le_refl _ | exact hgg)
      · rw [HEND.out]
        exact ⟨rfl, rfl, HKM.out.1, HKM.out.2⟩
end Go.Proofs.Ytefmnfplipdnmaa
