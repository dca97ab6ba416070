/- The document's view (bowerref14): Cell, Lack, Find, Forget, Learn, At. Condition: sizes that fit. The document's view (bowerref14): Learn, At. Condition: sizes that fit. -/
import Derived.Test.YtdbklklmpnlinaaKnRow
import Derived.Test.YtdbklklmpnlinaaFvMade
namespace Go.Proofs.Ytdbklklmpnlinaa
open Go.RowKit Go.Maps

theorem rcell14_any (c : Int) (w : World) : Calls Try.prog 13 #[.int .i64 c] w fun e w' => e = .returned (.bool (cellB c)) ∧ w = w' := by
  by_cases h1 : 0 ≤ c
  · by_cases h2 : c < 8192
    · rw [show cellB c = true by unfold cellB; rw [decide_eq_true_iff]; omega]
      go_enter Try.func13, Try.ntmps13
      go_wp2
      go_ret
      exact ⟨rfl, rfl⟩
    · rw [show cellB c = false by unfold cellB; rw [decide_eq_false_iff_not]; omega]
      go_enter Try.func13, Try.ntmps13
      go_wp2
      go_ret
      exact ⟨rfl, rfl⟩
  · rw [show cellB c = false by unfold cellB; rw [decide_eq_false_iff_not]; omega]
    go_enter Try.func13, Try.ntmps13
    go_wp2
    go_ret
    exact ⟨rfl, rfl⟩

def kpos (ks : List Kn) (c : Int) : Nat := ks.findIdx (fun k => decide (k.c = c))
def kidx (ks : List Kn) (c : Int) : Int := if kpos ks c < ks.length then (kpos ks c : Int) else -1
theorem kpos_none {ks : List Kn} {c : Int} (h : ∀ j, j < ks.length → (kAt ks j).c ≠ c) : kidx ks c = -1 ∧ kfind ks c = none := by
  have h1 : kpos ks c = ks.length := by
    unfold kpos
    rw [List.findIdx_eq_length]
    intro x hx
    obtain ⟨j, hj, rfl⟩ := List.mem_iff_getElem.1 hx
    have := h j hj
    rw [kAt_eq hj] at this
    simp [this]
  refine ⟨by unfold kidx; rw [h1, if_neg (Nat.lt_irrefl _)], ?_⟩
  unfold kfind
  rw [List.find?_eq_none]
  intro x hx
  obtain ⟨j, hj, rfl⟩ := List.mem_iff_getElem.1 hx
  have := h j hj
  rw [kAt_eq hj] at this
  simp [this]
theorem kpos_some {ks : List Kn} {c : Int} {i : Nat} (hi : i < ks.length) (h : ∀ j, j < i → (kAt ks j).c ≠ c) (he : (kAt ks i).c = c) : kidx ks c = i ∧ kfind ks c = some (kAt ks i) := by
  have h1 : kpos ks c = i := by
    unfold kpos
    rw [List.findIdx_eq hi]
    rw [kAt_eq hi] at he
    refine ⟨by simp [he], fun j hj => ?_⟩
    have := h j hj
    rw [kAt_eq (by omega)] at this
    simp [this]
  refine ⟨by unfold kidx; rw [h1, if_pos hi], ?_⟩
  unfold kfind
  rw [List.find?_eq_some_iff_getElem]
  rw [kAt_eq hi] at he ⊢
  refine ⟨by simp [he], i, hi, rfl, fun j hj => ?_⟩
  have := h j hj
  rw [kAt_eq (by omega)] at this
  simp [this]
theorem kidx_cases (ks : List Kn) (c : Int) : (kidx ks c = -1 ∧ kfind ks c = none) ∨ ∃ i, i < ks.length ∧ kidx ks c = i ∧ kfind ks c = some (kAt ks i) := by
  by_cases h : ∃ i, i < ks.length ∧ (kAt ks i).c = c
  · right
    have : ∀ n, ∀ i, i ≤ n → i < ks.length → (kAt ks i).c = c → ∃ i, i < ks.length ∧ kidx ks c = i ∧ kfind ks c = some (kAt ks i) := by
      intro n
      induction n with
      | zero => intro i h0 hi he; exact ⟨i, hi, kpos_some hi (fun j hj => by omega) he⟩
      | succ n ih =>
        intro i h0 hi he
        by_cases hl : ∃ j, j < i ∧ (kAt ks j).c = c
        · obtain ⟨j, hj, hje⟩ := hl
          exact ih j (by omega) (by omega) hje
        · exact ⟨i, hi, kpos_some hi (fun j hj e => hl ⟨j, hj, e⟩) he⟩
    obtain ⟨i, hi, he⟩ := h
    exact this i i (Nat.le_refl _) hi he
  · exact Or.inl (kpos_none (fun j hj e => h ⟨j, hj, e⟩))

section
variable {P : Value → Value → Value → Kn → Prop}
theorem rfind_any (ao : Option Addr) (n c : Nat) (so : Option Addr) (sn sc : Nat) (k m cell : Int) (ks : List Kn) (w : World) (h : KsAt P w (.slice ao n c) ks) :
    Calls Try.prog 14 #[.agg #[.slice ao n c, .slice so sn sc, .int .i64 k, .int .i64 m], .int .i64 cell] w fun e w' => e = .returned (.int .i64 (kidx ks cell)) ∧ Below w.heap.size w w' := by
  have hx := boxed_below w (.cells #[.slice ao n c, .slice so sn sc, .int .i64 k, .int .i64 m] 49)
  have n1 := BX.new w 49 #[.slice ao n c, .slice so sn sc, .int .i64 k, .int .i64 m]
  obtain ⟨W1, hW1⟩ : ∃ W, W = w.alloc (.cells #[.slice ao n c, .slice so sn sc, .int .i64 k, .int .i64 m] 49) := ⟨_, rfl⟩
  rw [← hW1] at hx n1
  obtain ⟨hl1, hl2, hl3⟩ := h.len
  have HK := Lib.hid (h.keep hx)
  have HX := Lib.hid hx
  have HW := Lib.hid hW1
  have HL1 := Lib.hid hl1
  have c0 : W1.cell? ⟨w.heap.size, 0, none⟩ = some (.slice ao n c) := n1.cell 0 rfl
  clear hx n1 hW1 h hl1
  go_enter Try.func14, Try.ntmps14
  go_upto_region 1 with fail
  rw [← HW.out]
  clear HW
  go_wp2
  go_loopw [5] (fun s wr => ∃ i : Nat, s = .int .i64 i ∧ i ≤ n ∧ Hid (W1 = wr) ∧ Hid (∀ j, j < i → (kAt ks j).c ≠ cell)) (fun s _ => n - (intOf s).toNat)
  case atStart => exact ⟨0, rfl, Nat.zero_le _, Lib.hid rfl, Lib.hid (fun j hj => absurd hj (Nat.not_lt_zero _))⟩
  case round =>
    obtain ⟨i, rfl, hi, hwr, hall⟩ := hrel
    have hwe := hwr.out
    subst hwe
    clear hwr
    by_cases hlt : i < n
    · obtain ⟨g, o, ak, nk, ck, av, nv, cv, ac, nc, cc, rfl, _, hc⟩ := HK.out.get hlt
      have hc1 := (hc _ (Below.refl _ _)).1
      have hlt' : (i : Int) < n := by omega
      have HE := Lib.hid (show kAt ks i = kAt ks i from rfl)
      clear hc
      obtain ⟨z, hz⟩ : ∃ z, z = (kAt ks i).c := ⟨_, rfl⟩
      rw [← hz] at hc1
      have HZ := Lib.hid hz
      clear hz
      by_cases he : z = cell
      · subst he
        have HR := Lib.hid (kpos_some (c := z) (by have := HL1.out; omega) hall.out HZ.out.symm).1
        go_wp2
        go_ret
        exact ⟨by rw [HR.out]; rfl, HX.out⟩
      · have HN : Hid (∀ j, j < i + 1 → (kAt ks j).c ≠ cell) := Lib.hid (fun j hj => by
          by_cases e : j = i
          · subst e; rw [← HZ.out]; exact he
          · exact hall.out j (by omega))
        go_wp2
        go_roundw
        case rel => exact ⟨i + 1, by go_num, by omega, Lib.hid (by trivial), HN⟩
        case measure => simp [intOf]; omega
    · obtain rfl : i = n := by omega
      have HR := Lib.hid (kpos_none (ks := ks) (c := cell) (fun j hj => hall.out j (by have := HL1.out; omega))).1
      go_wp2
      go_ret
      exact ⟨by rw [HR.out]; rfl, HX.out⟩

theorem kdrop_more {ks : List Kn} {i : Nat} (h : i < ks.length) (c : Int) : kdrop (ks.take (i + 1)) c = kdrop (ks.take i) c ++ (if (kAt ks i).c = c then [] else [kAt ks i]) := by
  rw [List.take_succ_eq_append_getElem h, kAt_eq h]
  unfold kdrop
  rw [List.filter_append]
  congr 1
  by_cases e : ks[i].c = c <;> simp [List.filter, e]
theorem kdrop_le (ks : List Kn) (c : Int) : (kdrop ks c).length ≤ ks.length := List.length_filter_le _ _
theorem bx_no {W : World} {g : Nat} {cs : Array Value} {t : TypeId} (h : BX W g t cs) (hne : t ≠ 43) : ∀ cs', W.heap[g]? = some (Obj.cells cs' 43 (0, 0)) → False := fun cs' e => by
  unfold BX at h
  rw [h] at e
  injection e with e
  injection e with _ e _
  exact hne e
set_option maxHeartbeats 4000000 in
set_option maxRecDepth 100000 in
theorem rforget_any (ao : Option Addr) (n c : Nat) (so : Option Addr) (sn sc : Nat) (k m cell : Int) (ks : List Kn) (w : World) (h : KsAt P w (.slice ao n c) ks) (hn : n ≤ 274877906943) :
    Calls Try.prog 115 #[.agg #[.slice ao n c, .slice so sn sc, .int .i64 k, .int .i64 m], .int .i64 cell] w fun e w' => (∃ lo ln lc, e = .returned (.agg #[.slice lo ln lc, .slice so sn sc, .int .i64 k, .int .i64 m]) ∧ KsR P w' w.heap.size (.slice lo ln lc) (kdrop ks cell)) ∧ Below w.heap.size w w' := by
  obtain ⟨W1, hW1, b1, b2, hx⟩ := bx2 w 49 49 #[.slice ao n c, .slice so sn sc, .int .i64 k, .int .i64 m] #[.slice none 0 0, .slice none 0 0, .int .i64 0, .int .i64 0]
  obtain ⟨hl1, hl2, hl3⟩ := h.len
  obtain ⟨g2, hg⟩ : ∃ g, g = w.heap.size + 1 := ⟨_, rfl⟩
  have hgz : w.heap.size ≠ g2 := by omega
  have hgz' : g2 ≠ w.heap.size := by omega
  have HGG := Lib.hid hg
  rw [← hg] at b2
  have hsz : W1.heap.size = w.heap.size + 1 + 1 := by rw [hW1, World.size_alloc, World.size_alloc]
  have HK := Lib.hid (h.keep hx)
  have HX := Lib.hid hx
  have HW := Lib.hid hW1
  have HL1 := Lib.hid hl1
  have HB1 := Lib.hid b1
  have HB2 := Lib.hid b2
  have HS := Lib.hid (show w.heap.size < W1.heap.size ∧ g2 < W1.heap.size ∧ w.heap.size ≤ g2 by omega)
  obtain ⟨i0, hi, hz0, hz1, hz2⟩ := info_parts fvInfoKn
  have HI := Lib.hid (show _ ∧ _ ∧ _ ∧ _ from ⟨hi, hz0, hz1, hz2⟩)
  clear hx hW1 h hl1 b1 b2 hg hsz hi hz0 hz1 hz2
  go_enter Try.func115, Try.ntmps115
  go_upto_region 1 with fail
  rw [← HW.out]
  try rw [World.size_alloc]
  rw [← HGG.out]
  clear HW HGG
  go_wp2
  go_loopw [5, 6] (fun l s wr => ∃ i : Nat, s = .int .i64 i ∧ i ≤ n ∧ Hid (KsR P wr W1.heap.size l (kdrop (ks.take i) cell)) ∧ Hid (Below W1.heap.size W1 wr)) (fun _ s _ => n - (intOf s).toNat)
  case atStart => exact ⟨0, rfl, Nat.zero_le _, Lib.hid (KsR.nil _ _ _), Lib.hid (Below.refl _ _)⟩
  case round =>
    obtain ⟨i, rfl, hi, hO, hB⟩ := hrel
    obtain ⟨lo, lc, rfl⟩ := hO.out.open
    have c0 : wr.cell? ⟨w.heap.size, 0, none⟩ = some (.slice ao n c) := (HB1.out.below hB.out).cell 0 rfl
    have c1 : wr.cell? ⟨w.heap.size, 1, none⟩ = some (.slice so sn sc) := (HB1.out.below hB.out).cell 1 rfl
    have c2 : wr.cell? ⟨w.heap.size, 2, none⟩ = some (.int .i64 k) := (HB1.out.below hB.out).cell 2 rfl
    have c3 : wr.cell? ⟨w.heap.size, 3, none⟩ = some (.int .i64 m) := (HB1.out.below hB.out).cell 3 rfl
    have hle : (kdrop (ks.take i) cell).length ≤ i := Nat.le_trans (kdrop_le _ _) (by rw [List.length_take]; omega)
    by_cases hlt : i < n
    · obtain ⟨g, o, ak, nk, ck, av, nv, cv, ac, nc, cc, rfl, hP, hc⟩ := HK.out.get hlt
      have hmore := kdrop_more (ks := ks) (by have := HL1.out; omega : i < ks.length) cell
      obtain ⟨kn, hkn⟩ : ∃ kn, kn = kAt ks i := ⟨_, rfl⟩
      rw [← hkn] at hc hmore hP
      obtain ⟨q0, q1, q2, q3, q4, q5, q6, q7, q8, q9, q10⟩ := hc _ hB.out
      have hlt' : (i : Int) < n := by omega
      clear hc hkn
      by_cases he : kn.c = cell
      · rw [if_pos he, List.append_nil] at hmore
        have HO2 := Lib.hid hO.out
        rw [← hmore] at HO2
        have hlen : (kdrop (ks.take i) cell).length = (kdrop (ks.take (i + 1)) cell).length := by rw [hmore]
        rw [← hmore]
        clear hmore hlen hP
        go_wp2
        go_roundw
        case rel => exact ⟨i + 1, by go_num, by omega, HO2, hB⟩
        case measure => simp [intOf]; omega
      · rw [if_neg he] at hmore
        obtain ⟨L, hL⟩ : ∃ L, L = kdrop (ks.take i) cell := ⟨_, rfl⟩
        rw [← hL] at hmore hO hle ⊢
        obtain ⟨ls, hls, hown⟩ := hO.out
        have hbA : Below wr.heap.size wr (wr.alloc (.cells #[.int .i64 kn.c, .int .u64 kn.wd, .int .u64 kn.vr, .int .i64 kn.n.lv, .string kn.n.lo, .string kn.n.hi, .bool kn.n.la, .int .i64 kn.n.nx, .slice ak nk ck, .slice av nv cv, .slice ac nc cc] 43)) := (Below.refl _ _).alloc (Nat.le_refl _) _
        have ho1 := fv_stays hown hbA
        have hnews := World.news_of_block (cs := #[.int .i64 kn.c, .int .u64 kn.wd, .int .u64 kn.vr, .int .i64 kn.n.lv, .string kn.n.lo, .string kn.n.hi, .bool kn.n.la, .int .i64 kn.n.nx, .slice ak nk ck, .slice av nv cv, .slice ac nc cc]) (heap_alloc_new wr (.cells #[.int .i64 kn.c, .int .u64 kn.wd, .int .u64 kn.vr, .int .i64 kn.n.lv, .string kn.n.lo, .string kn.n.hi, .bool kn.n.la, .int .i64 kn.n.nx, .slice ak nk ck, .slice av nv cv, .slice ac nc cc] 43))
        have hKL : KL P [.int .i64 kn.c, .int .u64 kn.wd, .int .u64 kn.vr, .int .i64 kn.n.lv, .string kn.n.lo, .string kn.n.hi, .bool kn.n.la, .int .i64 kn.n.nx, .slice ak nk ck, .slice av nv cv, .slice ac nc cc] kn := ⟨ak, nk, ck, av, nv, cv, ac, nc, cc, rfl, hP⟩
        have hone := hKL.ones
        have HH := Lib.hid (show _ ∧ _ ∧ _ ∧ _ ∧ _ from ⟨hls, hKL, ho1, hnews, hone⟩)
        have HM := Lib.hid hmore
        have hBA := hB.out.size
        have HBA := Lib.hid (hB.out.trans (hbA.mono hB.out.size))
        clear hown hbA ho1 hnews hone hls hKL hmore hP hL hO
        obtain ⟨n9, hn9⟩ : ∃ n9, n9 = L.length := ⟨_, rfl⟩
        rw [← hn9] at HH hle ⊢
        have HN9 := Lib.hid hn9
        clear hn9
        go_wp2_with ((with_reducible show wpList _ _ _ (⟨some 29, _, _, _, _, _⟩ :: _) _ _); refine wpList_append_own (o := ⟨some 29, _, _, _, _, _⟩) _ rfl _ _ 22 rfl W1.heap.size 43 i0 (.agg #[.int .i64 0, .int .u64 0, .int .u64 0, .int .i64 0, .string ⟨#[]⟩, .string ⟨#[]⟩, .bool false, .int .i64 0, .slice none 0 0, .slice none 0 0, .slice none 0 0]) 11 152 Try.underlying22 HI.out.1 HI.out.2.1 HI.out.2.2.1 HI.out.2.2.2 rfl (by decide) _ _ _ rfl HH.out.2.2.1 ⟨wr.heap.size, 0, none⟩ 1 1 [.int .i64 kn.c, .int .u64 kn.wd, .int .u64 kn.vr, .int .i64 kn.n.lv, .string kn.n.lo, .string kn.n.hi, .bool kn.n.la, .int .i64 kn.n.nx, .slice ak nk ck, .slice av nv cv, .slice ac nc cc] rfl rfl HH.out.2.2.2.1 HH.out.2.2.2.2 (by unfold maxLen; omega) (by omega) (by rw [World.size_alloc]; omega) ?_)
        intro v2 w2 hown2 hgrow2 _
        have hks : KsR P w2 W1.heap.size v2 (kdrop (ks.take (i + 1)) cell) := by
          rw [HM.out]
          exact KsR.add HH.out.1 HH.out.2.1 (by rw [← HN9.out]; exact hown2)
        have HO2 := Lib.hid hks
        have HB2' := Lib.hid (HBA.out.grown hgrow2 (by rw [World.size_alloc]; omega) (fun j hj => by
          have := fv_block HH.out.2.2.1 hj
          exact this.1))
        clear hks hown2 hgrow2
        go_wp2
        go_roundw
        case rel => exact ⟨i + 1, by go_num, by omega, HO2, HB2'⟩
        case measure => simp [intOf]; omega
    · obtain rfl : i = n := by omega
      have hall : ks.take i = ks := by rw [HL1.out]; exact List.take_length
      rw [hall] at hO ⊢
      have e1 := HB1.out.below hB.out
      have e2 := HB2.out.below hB.out
      have r0 := e2.cell 0 rfl
      have r1 := e2.cell 1 rfl
      have r2 := e2.cell 2 rfl
      have r3 := e2.cell 3 rfl
      have y0 := e1.frozen 0
      have x0 := e2.frozen 0
      have x1 := e2.frozen 1
      have x2 := e2.frozen 2
      have x3 := e2.frozen 3
      have HE1 := Lib.hid e1
      have HE2 := Lib.hid e2
      clear e1 e2 hall hle
      generalize (kdrop ks cell).length = n9 at *
      go_wp2
      refine bodyPost_ret (v := .agg #[.slice lo n9 lc, .slice so sn sc, .int .i64 k, .int .i64 m]) (by simp [results, Try.results115, go_sem, *]) rfl ?_
      have ht : Turn (fun j => j = w.heap.size ∨ j = g2) wr (((((wr.setCell ⟨w.heap.size, 0, none⟩ (.slice lo n9 lc)).setCell ⟨g2, 0, none⟩ (.slice lo n9 lc)).setCell ⟨g2, 1, none⟩ (.slice so sn sc)).setCell ⟨g2, 2, none⟩ (.int .i64 k)).setCell ⟨g2, 3, none⟩ (.int .i64 m)) := by
        refine Turn.setCell (S := fun j => j = w.heap.size ∨ j = g2) (Turn.setCell (S := fun j => j = w.heap.size ∨ j = g2) (Turn.setCell (S := fun j => j = w.heap.size ∨ j = g2) (Turn.setCell (S := fun j => j = w.heap.size ∨ j = g2) (Turn.setCell (S := fun j => j = w.heap.size ∨ j = g2) (Turn.refl _ wr) (Or.inl (Or.inl rfl)) _) (Or.inl (Or.inr rfl)) _) (Or.inl (Or.inr rfl)) _) (Or.inl (Or.inr rfl)) _) (Or.inl (Or.inr rfl)) _
      refine ⟨⟨_, _, _, rfl, ((hO.out.base (C := w.heap.size) HX.out.size).moved ht (fun j cs e hg => ?_))⟩, ?_⟩
      · rcases e with rfl | rfl
        · exact bx_no HE1.out (by decide) cs hg
        · exact bx_no HE2.out (by decide) cs hg
      · have hbb := HX.out.trans (hB.out.mono HX.out.size)
        exact hbb.trans (ht.below (fun j e => by
          have e' : j = w.heap.size ∨ j = g2 := e
          have := HS.out
          omega) (by have := HS.out; have := hB.out.size; omega))
end
end Go.Proofs.Ytdbklklmpnlinaa

namespace Go.Proofs.Ytdbklklmpnlinaa
open Go.RowKit Go.Maps

theorem bx3 (w : World) (t1 t2 t3 : TypeId) (c1 c2 c3 : Array Value) : ∃ W, W = ((w.alloc (.cells c1 t1)).alloc (.cells c2 t2)).alloc (.cells c3 t3) ∧ BX W w.heap.size t1 c1 ∧ BX W (w.heap.size + 1) t2 c2 ∧ BX W (w.heap.size + 2) t3 c3 ∧ Below w.heap.size w W ∧ W.heap.size = w.heap.size + 3 := by
  obtain ⟨W, hW, h1, h2, hb⟩ := bx2 w t1 t2 c1 c2
  have hs : W.heap.size = w.heap.size + 2 := by rw [hW, World.size_alloc, World.size_alloc]
  have hb2 : Below W.heap.size W (W.alloc (.cells c3 t3)) := (Below.refl _ _).alloc (Nat.le_refl _) _
  refine ⟨W.alloc (.cells c3 t3), by rw [hW], h1.below hb2, h2.below hb2, ?_, hb.trans (hb2.mono hb.size), by rw [World.size_alloc, hs]⟩
  have h := BX.new W t3 c3
  rw [hs] at h
  exact h
theorem BX.set {V : World} {A : Nat} {t : TypeId} {cs : Array Value} (h : BX V A t cs) (i : Nat) (u : Value) : BX (V.setCell ⟨A, i, none⟩ u) A t (cs.setIfInBounds i u) := heap_setCell_same V A i cs t u h
theorem BX.far {V : World} {A : Nat} {t : TypeId} {cs : Array Value} (h : BX V A t cs) {p : Addr} (hne : A ≠ p.block) (u : Value) : BX (V.setCell p u) A t cs := (Below.heap_setCell V p u A hne).trans h
theorem lackK_f (k kk : Int) : lackK k true 3 = lackK k false kk := by unfold lackK; split <;> rfl
theorem lackM_f (k m mm : Int) : lackM k m true 0 = lackM k m false mm := by unfold lackM; split <;> rfl

section
variable {P : Value → Value → Value → Kn → Prop}
set_option maxHeartbeats 4000000 in
set_option maxRecDepth 100000 in
theorem rlearn_no (ao : Option Addr) (n c : Nat) (so : Option Addr) (sn sc : Nat) (k m : Int) (kn : Kn) (ak : Option Addr) (nk ck : Nat) (av : Option Addr) (nv cv : Nat) (ac : Option Addr) (nc cc : Nat) (w : World) (hcell : cellB kn.c = false) :
    Calls Try.prog 71 #[.agg #[.slice ao n c, .slice so sn sc, .int .i64 k, .int .i64 m], .agg #[.int .i64 kn.c, .int .u64 kn.wd, .int .u64 kn.vr, .int .i64 kn.n.lv, .string kn.n.lo, .string kn.n.hi, .bool kn.n.la, .int .i64 kn.n.nx, .slice ak nk ck, .slice av nv cv, .slice ac nc cc]] w fun e w' => e = .returned (.tuple #[.agg #[.slice ao n c, .slice so sn sc, .int .i64 k, .int .i64 m], .bool false]) ∧ Below w.heap.size w w' := by
  obtain ⟨W1, hW1, b1, b2, b3, hx, hsz⟩ := bx3 w 49 43 49 #[.slice ao n c, .slice so sn sc, .int .i64 k, .int .i64 m] #[.int .i64 kn.c, .int .u64 kn.wd, .int .u64 kn.vr, .int .i64 kn.n.lv, .string kn.n.lo, .string kn.n.hi, .bool kn.n.la, .int .i64 kn.n.nx, .slice ak nk ck, .slice av nv cv, .slice ac nc cc] #[.slice none 0 0, .slice none 0 0, .int .i64 0, .int .i64 0]
  have HX := Lib.hid hx
  have HW := Lib.hid hW1
  have HCE := Lib.hid (fun W => rcell14_any kn.c W)
  rw [hcell] at HCE
  obtain ⟨g1, hg1⟩ : ∃ g, g = w.heap.size + 1 := ⟨_, rfl⟩
  obtain ⟨g2, hg2⟩ : ∃ g, g = w.heap.size + 2 := ⟨_, rfl⟩
  rw [← hg1] at b2
  rw [← hg2] at b3
  have HG := Lib.hid (show g1 = w.heap.size + 1 ∧ g2 = w.heap.size + 2 from ⟨hg1, hg2⟩)
  have hne : w.heap.size ≠ g2 := by omega
  have hne' : g2 ≠ w.heap.size := by omega
  have q0 := b1.cell 0 rfl
  have q1 := b1.cell 1 rfl
  have q2 := b1.cell 2 rfl
  have q3 := b1.cell 3 rfl
  have s0 := b2.cell 0 rfl
  have s1 := b2.cell 1 rfl
  have s2 := b2.cell 2 rfl
  have s3 := b2.cell 3 rfl
  have s4 := b2.cell 4 rfl
  have s5 := b2.cell 5 rfl
  have s6 := b2.cell 6 rfl
  have s7 := b2.cell 7 rfl
  have s8 := b2.cell 8 rfl
  have s9 := b2.cell 9 rfl
  have s10 := b2.cell 10 rfl
  have r0 := b3.cell 0 rfl
  have r1 := b3.cell 1 rfl
  have r2 := b3.cell 2 rfl
  have r3 := b3.cell 3 rfl
  have x0 := b3.frozen 0
  have x1 := b3.frozen 1
  have x2 := b3.frozen 2
  have x3 := b3.frozen 3
  clear hx hW1 b1 b2 b3 hsz hg1 hg2 hcell
  go_enter Try.func71, Try.ntmps71
  go_upto_region 1 with fail
  rw [← HW.out]
  try simp only [World.size_alloc]
  rw [show w.heap.size + 1 + 1 = w.heap.size + 2 from rfl, ← HG.out.1, ← HG.out.2]
  clear HW
  go_wp2_with fail
  refine (HCE.out _).mono ?_
  rintro e w4 ⟨rfl, h4⟩
  rw [← h4]
  clear h4
  go_wp2
  refine bodyPost_ret (v := .tuple #[.agg #[.slice ao n c, .slice so sn sc, .int .i64 k, .int .i64 m], .bool false]) (by simp [results, Try.results71, go_sem, *]) rfl ?_
  refine ⟨rfl, ?_⟩
  have hgg : w.heap.size ≤ g2 := by have := HG.out; omega
  repeat' (first | (with_reducible exact HX.out) | (with_reducible refine Below.setCell ?_ ?_ _) | exact Nat.le_refl _ | exact hgg)

set_option maxHeartbeats 4000000 in
set_option maxRecDepth 100000 in
theorem rlearn_yes (ao : Option Addr) (n c : Nat) (so : Option Addr) (sn sc : Nat) (k m : Int) (ks : List Kn) (kn : Kn) (ak : Option Addr) (nk ck : Nat) (av : Option Addr) (nv cv : Nat) (ac : Option Addr) (nc cc : Nat) (w : World) (hcell : cellB kn.c = true) (h : KsAt P w (.slice ao n c) ks) (hn : n ≤ 274877906942) (hP : P (.slice ak nk ck) (.slice av nv cv) (.slice ac nc cc) kn) :
    Calls Try.prog 71 #[.agg #[.slice ao n c, .slice so sn sc, .int .i64 k, .int .i64 m], .agg #[.int .i64 kn.c, .int .u64 kn.wd, .int .u64 kn.vr, .int .i64 kn.n.lv, .string kn.n.lo, .string kn.n.hi, .bool kn.n.la, .int .i64 kn.n.nx, .slice ak nk ck, .slice av nv cv, .slice ac nc cc]] w fun e w' => (∃ lo ln lc, e = .returned (.tuple #[.agg #[.slice lo ln lc, .slice so sn sc, .int .i64 k, .int .i64 m], .bool true]) ∧ KsR P w' w.heap.size (.slice lo ln lc) (kdrop ks kn.c ++ [kn])) ∧ Below w.heap.size w w' := by
  obtain ⟨W1, hW1, b1, b2, b3, hx, hsz⟩ := bx3 w 49 43 49 #[.slice ao n c, .slice so sn sc, .int .i64 k, .int .i64 m] #[.int .i64 kn.c, .int .u64 kn.wd, .int .u64 kn.vr, .int .i64 kn.n.lv, .string kn.n.lo, .string kn.n.hi, .bool kn.n.la, .int .i64 kn.n.nx, .slice ak nk ck, .slice av nv cv, .slice ac nc cc] #[.slice none 0 0, .slice none 0 0, .int .i64 0, .int .i64 0]
  have hl1 := h.len.1
  have HX := Lib.hid hx
  have HW := Lib.hid hW1
  have HCE := Lib.hid (fun W => rcell14_any kn.c W)
  rw [hcell] at HCE
  have HF := Lib.hid (rforget_any ao n c so sn sc k m kn.c ks W1 (h.keep hx) (by omega))
  obtain ⟨g1, hg1⟩ : ∃ g, g = w.heap.size + 1 := ⟨_, rfl⟩
  obtain ⟨g2, hg2⟩ : ∃ g, g = w.heap.size + 2 := ⟨_, rfl⟩
  rw [← hg1] at b2
  rw [← hg2] at b3
  have HG := Lib.hid (show g1 = w.heap.size + 1 ∧ g2 = w.heap.size + 2 ∧ W1.heap.size = w.heap.size + 3 from ⟨hg1, hg2, hsz⟩)
  have hne : w.heap.size ≠ g2 := by omega
  have hne' : g2 ≠ w.heap.size := by omega
  have hne1 : w.heap.size ≠ g1 := by omega
  have hne1' : g1 ≠ w.heap.size := by omega
  have HB := Lib.hid (show _ ∧ _ ∧ _ from ⟨b1, b2, b3⟩)
  have HLE := Lib.hid (show (kdrop ks kn.c).length ≤ 274877906942 from Nat.le_trans (kdrop_le _ _) (by omega))
  have HKL := Lib.hid (show KL P [.int .i64 kn.c, .int .u64 kn.wd, .int .u64 kn.vr, .int .i64 kn.n.lv, .string kn.n.lo, .string kn.n.hi, .bool kn.n.la, .int .i64 kn.n.nx, .slice ak nk ck, .slice av nv cv, .slice ac nc cc] kn from ⟨ak, nk, ck, av, nv, cv, ac, nc, cc, rfl, hP⟩)
  obtain ⟨i0, hi, hz0, hz1, hz2⟩ := info_parts fvInfoKn
  have HI := Lib.hid (show _ ∧ _ ∧ _ ∧ _ from ⟨hi, hz0, hz1, hz2⟩)
  have q0 := b1.cell 0 rfl
  have q1 := b1.cell 1 rfl
  have q2 := b1.cell 2 rfl
  have q3 := b1.cell 3 rfl
  have s0 := b2.cell 0 rfl
  have s1 := b2.cell 1 rfl
  have s2 := b2.cell 2 rfl
  have s3 := b2.cell 3 rfl
  have s4 := b2.cell 4 rfl
  have s5 := b2.cell 5 rfl
  have s6 := b2.cell 6 rfl
  have s7 := b2.cell 7 rfl
  have s8 := b2.cell 8 rfl
  have s9 := b2.cell 9 rfl
  have s10 := b2.cell 10 rfl
  clear hx hW1 b1 b2 b3 hsz hg1 hg2 hcell hi hz0 hz1 hz2 h hl1 hn hP
  go_enter Try.func71, Try.ntmps71
  go_upto_region 1 with fail
  rw [← HW.out]
  try simp only [World.size_alloc]
  rw [show w.heap.size + 1 + 1 = w.heap.size + 2 from rfl, ← HG.out.1, ← HG.out.2.1]
  clear HW
  go_wp2_with fail
  refine (HCE.out _).mono ?_
  rintro e w4 ⟨rfl, h4⟩
  rw [← h4]
  clear h4
  go_wp2_with fail
  refine HF.out.mono ?_
  rintro e w5 ⟨⟨lo, ln, lc, rfl, hks⟩, hb5⟩
  have hln := hks.ks.len.1
  have c1 := HB.out.1.below hb5
  have c2 := HB.out.2.1.below hb5
  have c3 := HB.out.2.2.below hb5
  clear q0 q1 q2 q3 s0 s1 s2 s3 s4 s5 s6 s7 s8 s9 s10 HF HB
  obtain ⟨W6, hW6⟩ : ∃ W, W = (((w5.setCell ⟨w.heap.size, 0, none⟩ (.slice lo ln lc)).setCell ⟨w.heap.size, 1, none⟩ (.slice so sn sc)).setCell ⟨w.heap.size, 2, none⟩ (.int .i64 k)).setCell ⟨w.heap.size, 3, none⟩ (.int .i64 m) := ⟨_, rfl⟩
  have ht6 : Turn (fun j => j = w.heap.size) w5 W6 := by
    rw [hW6]
    exact Turn.setCell (S := fun j => j = w.heap.size) (Turn.setCell (S := fun j => j = w.heap.size) (Turn.setCell (S := fun j => j = w.heap.size) (Turn.setCell (S := fun j => j = w.heap.size) (Turn.refl _ w5) (Or.inl rfl) _) (Or.inl rfl) _) (Or.inl rfl) _) (Or.inl rfl) _
  have d1 : BX W6 w.heap.size 49 #[.slice lo ln lc, .slice so sn sc, .int .i64 k, .int .i64 m] := by
    rw [hW6]
    exact (((c1.set 0 _).set 1 _).set 2 _).set 3 _
  have d2 : BX W6 g1 43 #[.int .i64 kn.c, .int .u64 kn.wd, .int .u64 kn.vr, .int .i64 kn.n.lv, .string kn.n.lo, .string kn.n.hi, .bool kn.n.la, .int .i64 kn.n.nx, .slice ak nk ck, .slice av nv cv, .slice ac nc cc] := by
    rw [hW6]
    exact (((c2.far hne1' _).far hne1' _).far hne1' _).far hne1' _
  have d3 : BX W6 g2 49 #[.slice none 0 0, .slice none 0 0, .int .i64 0, .int .i64 0] := by
    rw [hW6]
    exact (((c3.far hne' _).far hne' _).far hne' _).far hne' _
  have hk6 : KsR P W6 W1.heap.size (.slice lo ln lc) (kdrop ks kn.c) := hks.moved ht6 (fun j cs e hg => by
    have e' : j = w.heap.size := e
    subst e'
    exact bx_no c1 (by decide) cs hg)
  have HX6 := Lib.hid ((HX.out.trans (hb5.mono HX.out.size)).trans (ht6.below (B := w.heap.size) (fun j e => by rw [show j = w.heap.size from e]; exact Nat.le_refl _) (Nat.le_trans HX.out.size hb5.size)))
  have HS6 := Lib.hid (show W1.heap.size ≤ W6.heap.size from Nat.le_trans hb5.size ht6.size)
  obtain ⟨ls, hls, hown⟩ := hk6
  have hbA : Below W6.heap.size W6 (W6.alloc (.cells #[.int .i64 kn.c, .int .u64 kn.wd, .int .u64 kn.vr, .int .i64 kn.n.lv, .string kn.n.lo, .string kn.n.hi, .bool kn.n.la, .int .i64 kn.n.nx, .slice ak nk ck, .slice av nv cv, .slice ac nc cc] 43)) := (Below.refl _ _).alloc (Nat.le_refl _) _
  have ho1 := fv_stays hown hbA
  have hnews := World.news_of_block (cs := #[.int .i64 kn.c, .int .u64 kn.wd, .int .u64 kn.vr, .int .i64 kn.n.lv, .string kn.n.lo, .string kn.n.hi, .bool kn.n.la, .int .i64 kn.n.nx, .slice ak nk ck, .slice av nv cv, .slice ac nc cc]) (heap_alloc_new W6 (.cells #[.int .i64 kn.c, .int .u64 kn.wd, .int .u64 kn.vr, .int .i64 kn.n.lv, .string kn.n.lo, .string kn.n.hi, .bool kn.n.la, .int .i64 kn.n.nx, .slice ak nk ck, .slice av nv cv, .slice ac nc cc] 43))
  have hone := HKL.out.ones
  have HH := Lib.hid (show _ ∧ _ ∧ _ ∧ _ from ⟨hls, ho1, hnews, hone⟩)
  have HBA := Lib.hid hbA
  have HD := Lib.hid (show _ ∧ _ ∧ _ from ⟨d1.below hbA, d2.below hbA, d3.below hbA⟩)
  have HW6 := Lib.hid hW6
  have HLN := Lib.hid hln
  have hle : ln ≤ 274877906942 := by rw [hln]; exact HLE.out
  have p0 := d1.cell 0 rfl
  have p1 := d1.cell 1 rfl
  have p2 := d1.cell 2 rfl
  have p3 := d1.cell 3 rfl
  have t0 := d2.cell 0 rfl
  have t1 := d2.cell 1 rfl
  have t2 := d2.cell 2 rfl
  have t3 := d2.cell 3 rfl
  have t4 := d2.cell 4 rfl
  have t5 := d2.cell 5 rfl
  have t6 := d2.cell 6 rfl
  have t7 := d2.cell 7 rfl
  have t8 := d2.cell 8 rfl
  have t9 := d2.cell 9 rfl
  have t10 := d2.cell 10 rfl
  have f5 := c1.frozen
  have y0 := c1.frozen 0
  have y1 := c1.frozen 1
  have y2 := c1.frozen 2
  have y3 := c1.frozen 3
  have u0 := c1.cell 0 rfl
  have u1 := c1.cell 1 rfl
  have u2 := c1.cell 2 rfl
  have u3 := c1.cell 3 rfl
  clear f5 c1 c2 c3 d1 d2 d3 hks hb5 ht6 hown hbA ho1 hnews hone hls hW6 hln
  go_upto_region 4 with fail
  rw [← HW6.out]
  clear y0 y1 y2 y3 u0 u1 u2 u3 HW6
  go_wp2_with ((with_reducible show wpList _ _ _ (⟨some 19, _, _, _, _, _⟩ :: _) _ _); refine wpList_append_own (o := ⟨some 19, _, _, _, _, _⟩) _ rfl _ _ 22 rfl W1.heap.size 43 i0 (.agg #[.int .i64 0, .int .u64 0, .int .u64 0, .int .i64 0, .string ⟨#[]⟩, .string ⟨#[]⟩, .bool false, .int .i64 0, .slice none 0 0, .slice none 0 0, .slice none 0 0]) 11 152 Try.underlying22 HI.out.1 HI.out.2.1 HI.out.2.2.1 HI.out.2.2.2 rfl (by decide) _ _ _ rfl (by rw [← HLN.out] at HH; exact HH.out.2.1) ⟨W6.heap.size, 0, none⟩ 1 1 [.int .i64 kn.c, .int .u64 kn.wd, .int .u64 kn.vr, .int .i64 kn.n.lv, .string kn.n.lo, .string kn.n.hi, .bool kn.n.la, .int .i64 kn.n.nx, .slice ak nk ck, .slice av nv cv, .slice ac nc cc] rfl rfl HH.out.2.2.1 HH.out.2.2.2 (by unfold maxLen; omega) (by omega) (by rw [World.size_alloc]; have := HS6.out; omega) ?_)
  intro v2 w2 hown2 hgrow2 _
  have hks2 : KsR P w2 W1.heap.size v2 (kdrop ks kn.c ++ [kn]) := KsR.add HH.out.1 HKL.out (by rw [← HLN.out]; exact hown2)
  obtain ⟨lo2, lc2, rfl⟩ := hks2.open
  have hb2 : Below W1.heap.size (W6.alloc (.cells #[.int .i64 kn.c, .int .u64 kn.wd, .int .u64 kn.vr, .int .i64 kn.n.lv, .string kn.n.lo, .string kn.n.hi, .bool kn.n.la, .int .i64 kn.n.nx, .slice ak nk ck, .slice av nv cv, .slice ac nc cc] 43)) w2 := (Below.refl _ _).grown hgrow2 (by rw [World.size_alloc]; have := HS6.out; omega) (fun j hj => (fv_block (by rw [← HLN.out] at HH; exact HH.out.2.1) hj).1)
  have e1 : BX w2 w.heap.size 49 #[.slice lo ln lc, .slice so sn sc, .int .i64 k, .int .i64 m] := (hb2.block _ (by have := HG.out; omega)).trans HD.out.1
  have e3 : BX w2 g2 49 #[.slice none 0 0, .slice none 0 0, .int .i64 0, .int .i64 0] := (hb2.block _ (by have := HG.out; omega)).trans HD.out.2.2
  have HE := Lib.hid (show _ ∧ _ from ⟨e1, e3⟩)
  have HK2 := Lib.hid hks2
  have HX9 := Lib.hid (HX6.out.trans ((HBA.out.mono HX6.out.size).trans (hb2.mono (by have := HG.out; omega))))
  have HS9 := Lib.hid (show w.heap.size ≤ w2.heap.size from HX9.out.size)
  clear p0 p1 p2 p3 t0 t1 t2 t3 t4 t5 t6 t7 t8 t9 t10 HD hb2 hks2 hown2 hgrow2 HX6 HBA
  have a0 := e1.cell 0 rfl
  have a1 := e1.cell 1 rfl
  have a2 := e1.cell 2 rfl
  have a3 := e1.cell 3 rfl
  have b0 := e1.frozen 0
  have r0 := e3.cell 0 rfl
  have r1 := e3.cell 1 rfl
  have r2 := e3.cell 2 rfl
  have r3 := e3.cell 3 rfl
  have x0 := e3.frozen 0
  have x1 := e3.frozen 1
  have x2 := e3.frozen 2
  have x3 := e3.frozen 3
  clear e1 e3
  obtain ⟨n9, hn9⟩ : ∃ n9, n9 = (kdrop ks kn.c ++ [kn]).length := ⟨_, rfl⟩
  rw [← hn9] at HK2 ⊢
  clear hn9
  go_wp2
  refine bodyPost_ret (v := .tuple #[.agg #[.slice lo2 n9 lc2, .slice so sn sc, .int .i64 k, .int .i64 m], .bool true]) (by simp [results, Try.results71, go_sem, *]) rfl ?_
  have ht : Turn (fun j => j = w.heap.size ∨ j = g2) w2 (((((w2.setCell ⟨w.heap.size, 0, none⟩ (.slice lo2 n9 lc2)).setCell ⟨g2, 0, none⟩ (.slice lo2 n9 lc2)).setCell ⟨g2, 1, none⟩ (.slice so sn sc)).setCell ⟨g2, 2, none⟩ (.int .i64 k)).setCell ⟨g2, 3, none⟩ (.int .i64 m)) := by
    refine Turn.setCell (S := fun j => j = w.heap.size ∨ j = g2) (Turn.setCell (S := fun j => j = w.heap.size ∨ j = g2) (Turn.setCell (S := fun j => j = w.heap.size ∨ j = g2) (Turn.setCell (S := fun j => j = w.heap.size ∨ j = g2) (Turn.setCell (S := fun j => j = w.heap.size ∨ j = g2) (Turn.refl _ w2) (Or.inl (Or.inl rfl)) _) (Or.inl (Or.inr rfl)) _) (Or.inl (Or.inr rfl)) _) (Or.inl (Or.inr rfl)) _) (Or.inl (Or.inr rfl)) _
  refine ⟨⟨_, _, _, rfl, ((HK2.out.base (C := w.heap.size) HX.out.size).moved ht (fun j cs e hg => ?_))⟩, ?_⟩
  · rcases e with rfl | rfl
    · exact bx_no HE.out.1 (by decide) cs hg
    · exact bx_no HE.out.2 (by decide) cs hg
  · exact HX9.out.trans (ht.below (fun j e => by
      have e' : j = w.heap.size ∨ j = g2 := e
      have := HG.out
      omega) HS9.out)
end

section
variable {P : Value → Value → Value → Kn → Prop}
end
end Go.Proofs.Ytdbklklmpnlinaa
