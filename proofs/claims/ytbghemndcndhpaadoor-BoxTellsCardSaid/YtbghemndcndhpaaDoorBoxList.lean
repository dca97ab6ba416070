/- box.copied and box.List: a box with a copy of a list, in new memory. Condition: at most 2^38 boxes. -/
import Derived.Test.YtbghemndcndhpaaDoorBoxSmall
import Derived.OwnWalk
import Derived.Laws.CopyOwn
namespace Go.Proofs.YtbghemndcndhpaaDoor
open Go.RowKit

theorem infoBox : (Tryd.prog.info? 29).map (fun i => (i.zero, i.size, i.bytes)) = some (some (.agg #[.nilIface]), 1, 16) := by kernel_rfl
theorem sizeBox : (Tryd.prog.info? 29).map (·.size) = some 1 := by kernel_rfl

theorem splice_all {α : Type} (cur xs : List α) (h : cur.length = xs.length) : splice cur 0 xs = xs := by
  unfold splice
  simp [h]

set_option maxHeartbeats 2000000 in
theorem copied_any (ao : Option Addr) (n c : Nat) (xs : List Value) (w : World) (hr : Rd w (.slice ao n c) xs) (ho : ∀ u ∈ xs, u.oneCell' = true) (hn : n ≤ 274877906944) :
    Calls Tryd.prog 28 #[.slice ao n c] w fun e w' => ∃ v, e = .returned v ∧ Made w w' 29 v xs := by
  have hl := hr.len
  have HN := Lib.hid hl.1
  have HR := Lib.hid hr
  have HO := Lib.hid ho
  obtain ⟨i0, hi, hz0, hz1, hz2⟩ := info_parts infoBox
  have HI := Lib.hid (show _ ∧ _ ∧ _ ∧ _ from ⟨hi, hz0, hz1, hz2⟩)
  clear hr ho hl hi hz0 hz1 hz2
  go_enter Tryd.func28, Tryd.ntmps28
  have HMK : Hid (∀ (w1 : World) (zs : List Value), w1.ownsRow w.heap.size 29 1 (.slice (some ⟨w.heap.size, 0, none⟩) n n) n zs → w.grownBy w1 none → Whole w1 29 w.heap.size zs ∧ zs.length = n ∧ Below w.heap.size w w1 ∧ Rd w1 (.slice ao n c) xs) := Lib.hid (fun w1 zs hown hgrow => by
    have hw1 := whole_of_owns hown
    have hb1 : Below w.heap.size w w1 := (Below.refl _ _).grown hgrow (Nat.le_refl _) (fun _ h => by cases h)
    exact ⟨hw1.1, hw1.2, hb1, HR.out.keep hb1⟩)
  go_wp2_with (first
    | (refine wpList_make_full _ rfl (.tmp 5) (.tmp 5) 38 rfl w.heap.size 29 i0 (.agg #[.nilIface]) 1 Tryd.underlying38 HI.out.1 HI.out.2.1 HI.out.2.2.1 .i64 .i64 _ _ n rfl rfl rfl rfl (by rw [HI.out.2.2.2]; omega) (by unfold maxLen; omega) (Nat.le_refl _) ?_; intro w1 hown hgrow; have HZ := Lib.hid (HMK.out w1 _ hown hgrow); clear hown hgrow; generalize (madeCells (Value.cells (.agg #[.nilIface])) (n * 1)).toList = zs at HZ)
    | ((with_reducible show wpList _ _ _ (⟨some 9, _, _, _, _, _⟩ :: _) _ _); refine wpList_copy_splice (o := ⟨some 9, _, _, _, _, _⟩) rfl (.tmp 7) (.tmp 8) 38 38 rfl 29 Tryd.underlying38 sizeBox (some ⟨w.heap.size, 0, none⟩) ao n n n c rfl rfl w.heap.size 0 zs 29 HZ.out.1 xs (by rw [HN.out]; simp) (fun hp => ⟨rfl, HZ.out.2.2.2.src hp⟩) (by rw [HZ.out.2.1, HN.out]; omega) HO.out w.heap.size w HZ.out.2.2.1 (Nat.le_refl _) ?_; intro w2 HG2 hB2))
  have hg := HG2.out
  rw [splice_all zs xs (by rw [HZ.out.2.1, HN.out])] at hg
  have HG := Lib.hid hg
  clear hg HG2
  go_wp2
  go_ret
  refine ⟨_, rfl, w.heap.size, ?_, Nat.le_refl _, HG.out, hB2⟩
  rw [HN.out]
  rfl

/-- A block of one cell. -/
def One (w : World) (g : Nat) (v : Value) (t : TypeId) : Prop := w.heap[g]? = some (.cells #[v] t (0, 0))
theorem One.lt {w : World} {g : Nat} {v : Value} {t : TypeId} (h : One w g v t) : g < w.heap.size := lt_of_block h
theorem One.c {w : World} {g : Nat} {v : Value} {t : TypeId} (h : One w g v t) : w.cell? ⟨g, 0, none⟩ = some v := by unfold One at h; simp [World.cell?, h]
theorem One.f {w : World} {g i : Nat} {v : Value} {t : TypeId} (h : One w g v t) : w.frozen? ⟨g, i, none⟩ = false := by unfold One at h; simp [World.frozen?, h]
theorem One.alloc (w : World) (v : Value) (t : TypeId) : One (w.alloc (.cells #[v] t)) w.heap.size v t := heap_alloc_new _ _
theorem One.keep {w w' : World} {g : Nat} {v : Value} {t : TypeId} (h : One w g v t) (hb : Below w.heap.size w w') : One w' g v t := by
  unfold One at *
  rw [hb.block g (lt_of_block h)]
  exact h
theorem One.set {w : World} {g : Nat} {v u : Value} {t : TypeId} (h : One w g v t) : One (w.setCell ⟨g, 0, none⟩ u) g u t := by
  unfold One at *
  have hlt := lt_of_block h
  have h' : w.heap[g] = .cells #[v] t (0, 0) := by simpa [Array.getElem?_eq_getElem hlt] using h
  show (w.heap.modify g _)[g]? = _
  rw [Array.getElem?_eq_getElem (by simpa using hlt), Array.getElem_modify_self, h']
  rfl

/-- A box in new memory is told: its lists lie in blocks of S, or in new ones. -/
def BoxNew (S : Nat → Prop) (w w' : World) (e : Ending) (b : Bx) : Prop := ∃ v, e = .returned (.agg #[v]) ∧ BoxIs (fun k => S k ∨ (w.heap.size ≤ k ∧ k < w'.heap.size)) w' b v ∧ Below w.heap.size w w'

theorem maxD_take (bs : List Bx) (i : Nat) (hi : i < bs.length) : maxD (bs.take (i + 1)) = max (maxD (bs.take i)) (deepB bs[i]) := by
  induction bs generalizing i with
  | nil => simp at hi
  | cons b bs ih =>
    cases i with
    | zero => simp [maxD]
    | succ i =>
      rw [List.take_succ_cons, List.take_succ_cons, maxD, maxD, ih i (by simpa using hi)]
      simp only [List.getElem_cons_succ]
      omega

theorem maxD_le_take (bs : List Bx) (i : Nat) : maxD (bs.take i) ≤ maxD bs := by
  induction bs generalizing i with
  | nil => simp
  | cons b bs ih =>
    cases i with
    | zero => simp [maxD]
    | succ i =>
      rw [List.take_succ_cons, maxD, maxD]
      have := ih i
      omega

theorem box_one {S : Nat → Prop} {w : World} {b : Bx} {v : Value} (h : BoxIs S w b v) : v.oneCell' = true := by
  rcases h.form with rfl | ⟨t, u, rfl⟩ <;> rfl

theorem Rd.cellAt {w : World} {ao : Option Addr} {n c : Nat} {xs : List Value} (h : Rd w (.slice ao n c) xs) (i : Nat) (hi : i < n) : ∃ g o, ao = some ⟨g, o, none⟩ ∧ w.cell? ⟨g, o + i, none⟩ = some (xs.getD i .nilIface) := by
  have hl := h.len
  obtain ⟨ao', c', h1, h2, h3, h4⟩ := h
  injection h1 with e1 e2 e3
  subst e1
  obtain ⟨g, o, e, hc⟩ := h4 (by intro e; rw [e] at hl; simp at hl; omega)
  refine ⟨g, o, e, ?_⟩
  rw [hc i (by omega), List.getD_eq_getElem?_getD, List.getElem?_eq_getElem (by omega)]
  rfl

set_option maxHeartbeats 4000000 in
theorem newlist_any (S : Nat → Prop) (v : Value) (bs : List Bx) (w : World) (hr : RdB S w v bs) (hd : maxD bs ≤ 32) (hn : bs.length ≤ 274877906944) :
    Calls Tryd.prog 24 #[v] w fun e w' => BoxNew S w w' e (if 32 ≤ maxD bs then .nothing else .list bs) := by
  obtain ⟨xs, hrd, hlen, hbx⟩ := hr
  obtain ⟨ao, c, rfl⟩ := hrd.open
  have HX := Lib.hid hbx
  have HR := Lib.hid hrd
  have HL := Lib.hid hlen
  have HT := Lib.hid (fun i hi => maxD_take bs i hi)
  have HT2 := Lib.hid (fun i => maxD_le_take bs i)
  have HF : Hid (maxD (bs.take bs.length) = maxD bs) := Lib.hid (by rw [List.take_length])
  have hnc := hrd.len
  have hn1 := hnc.2.1
  have hn2 := hnc.2.2
  clear hbx hrd hnc
  rw [hlen] at HR hn1 ⊢
  clear hlen
  obtain ⟨n, hL⟩ : ∃ n, n = bs.length := ⟨_, rfl⟩
  rw [← hL] at HR hn1 hn HL HF ⊢
  have HN := Lib.hid hL
  clear hL
  have HB0 := Lib.hid (alloc_below w (.cells #[.nilIface] 29))
  obtain ⟨r, hr⟩ : ∃ r, r = (if 32 ≤ maxD bs then Bx.nothing else Bx.list bs) := ⟨_, rfl⟩
  rw [← hr]
  have HRR := Lib.hid hr
  clear hr
  go_enter Tryd.func24, Tryd.ntmps24
  go_wp2
  go_loopw [3, 8] (fun sd si wr => ∃ i : Nat, si = .int .i64 i ∧ i ≤ n ∧ sd = .int .i64 (maxD (bs.take i) : Nat) ∧ Hid (Below w.heap.size w wr) ∧ Hid (One wr w.heap.size .nilIface 29)) (fun _ si _ => n - (intOf si).toNat)
  case atStart => exact ⟨0, rfl, Nat.zero_le _, by simp [maxD], HB0, Lib.hid (One.alloc _ _ _)⟩
  case round =>
    obtain ⟨i, rfl, hi, rfl, hb, hon⟩ := hrel
    by_cases hlt : i < n
    · obtain ⟨g, o, rfl, hc⟩ := (HR.out.keep hb.out).cellAt i hlt
      have hib : i < bs.length := by have := HN.out; omega
      have hix : i < xs.length := by have := HL.out; omega
      have hbi := (HX.out i hib hix).below hb.out
      have hgx : xs.getD i .nilIface = xs[i] := by rw [List.getD_eq_getElem?_getD, List.getElem?_eq_getElem hix]; rfl
      rw [hgx] at hc
      have hD := Lib.hid (deep_any S bs[i] xs[i] (wr.alloc (.cells #[xs[i]] 29)) (hbi.below (alloc_below _ _)))
      have hst := HT.out i hib
      have h1 := HT2.out i
      have h2 := HT2.out (i + 1)
      have HST := Lib.hid hst
      have hform := hbi.form
      have hmx : deepB bs[i] ≤ 32 := by omega
      clear hgx hbi hst h2
      generalize xs[i] = x at *
      generalize hdb : deepB bs[i] = db at *
      clear hdb
      generalize hma : maxD (bs.take i) = ma at *
      have HMA := Lib.hid hma
      clear hma
      rcases hform with rfl | ⟨t, u, rfl⟩
      all_goals
        go_wp2_with fail
        refine hD.out.mono ?_
        rintro e w2 ⟨rfl, hb2⟩
        by_cases hc2 : db ≤ ma
        · have hcm : (db : Int) ≤ ma := by omega
          go_wp2
          all_goals first | (exfalso; omega) | skip
          go_roundw
          case rel => exact ⟨i + 1, by go_num, by omega, by rw [HST.out]; congr 1; omega, Lib.hid ((hb.out.alloc hb.out.size _).trans (hb2.mono (Nat.le_trans hb.out.size (by simp)))), Lib.hid ((hon.out.keep (alloc_below _ _)).keep hb2)⟩
          case measure => simp [intOf]; omega
        · have hcm : (ma : Int) < db := by omega
          go_wp2
          all_goals first | (exfalso; omega) | skip
          go_roundw
          case rel => exact ⟨i + 1, by go_num, by omega, by rw [HST.out]; congr 1; omega, Lib.hid ((hb.out.alloc hb.out.size _).trans (hb2.mono (Nat.le_trans hb.out.size (by simp)))), Lib.hid ((hon.out.keep (alloc_below _ _)).keep hb2)⟩
          case measure => simp [intOf]; omega
    · obtain rfl : i = n := by omega
      rw [HF.out]
      have hone : ∀ u ∈ xs, u.oneCell' = true := fun u hu => by
        obtain ⟨j, hj, rfl⟩ := List.getElem_of_mem hu
        exact box_one (HX.out j (by have := HL.out; have := HN.out; omega) hj)
      have HCP := Lib.hid (copied_any ao i c xs wr (HR.out.keep hb.out) hone hn)
      clear hone
      have c0 := hon.out.c
      have f0 := hon.out.f (i := 0)
      have z0 := hon.out.set (u := .nilIface)
      by_cases h32 : maxD bs = 32
      · have HI := Lib.hid (HRR.out.trans (if_pos (by omega)))
        have e32 : (((maxD bs : Nat) : Int) == 32) = true := by rw [h32]; rfl
        have z1 := z0.c
        clear h32 hd z0
        have HZ : Hid (Below w.heap.size w (wr.setCell ⟨w.heap.size, 0, none⟩ .nilIface)) := Lib.hid (hb.out.setCell (Nat.le_refl _) _)
        go_wp2
        refine bodyPost_ret (v := .agg #[.nilIface]) (by simp [results, Tryd.results24, go_sem, z1]) rfl ⟨.nilIface, rfl, by rw [HI.out, BoxIs], ?_⟩
        exact HZ.out
      · have HI := Lib.hid (HRR.out.trans (if_neg (by omega)))
        have e32 : (((maxD bs : Nat) : Int) == 32) = false := by simp; omega
        clear h32
        have HD := Lib.hid hd
        clear hd z0
        go_wp2_with fail
        refine HCP.out.mono ?_
        rintro e w2 ⟨v2, rfl, g2, rfl, hg2, hW2, hB2⟩
        have HW2 := Lib.hid hW2
        have ho2 := hon.out.keep hB2
        have HB2 := Lib.hid hB2
        have HL2 := HL.out
        clear hW2 hB2 c0 f0
        rw [HL2]
        have c0 := ho2.c
        have f0 := ho2.f (i := 0)
        have HO2 := Lib.hid ho2
        clear ho2
        obtain ⟨d, hdd⟩ : ∃ d, d = maxD bs + 1 := ⟨_, rfl⟩
        have hwr : wrap64 ((maxD bs : Int) + 1) = (d : Int) := by
          have := HD.out
          unfold wrap64
          omega
        have HDD := Lib.hid hdd
        clear hdd
        go_wp2
        have z1 := (HO2.out.set (u := .iface 58 (.agg #[.slice (some ⟨g2, 0, none⟩) i i, .int .i64 d]))).c
        refine bodyPost_ret (v := .agg #[.iface 58 (.agg #[.slice (some ⟨g2, 0, none⟩) i i, .int .i64 d])]) (by simp [hwr, results, Tryd.results24, go_sem, z1]) rfl ⟨_, rfl, ?_, ?_⟩
        · rw [HI.out, BoxIs]
          have hlt := hon.out.lt
          have hg2' : g2 < w2.heap.size := lt_of_block HW2.out
          refine ⟨g2, by rw [← HN.out, HDD.out], Or.inr ⟨by omega, by simpa using hg2'⟩, BoxL.mk (fun j hj => ?_)⟩
          have hjx : j < xs.length := by have := HN.out; omega
          refine ⟨xs[j], ?_, ?_⟩
          · rw [Nat.zero_add, World.cell?_of_block (w := w2) (a := ⟨g2, j, none⟩) (by exact Below.heap_setCell _ _ _ _ (by show g2 ≠ w.heap.size; omega)), HW2.out.cell, List.getElem?_eq_getElem hjx]
          · exact ((HX.out j hj hjx).below ((hb.out.trans (HB2.out.mono hb.out.size)).setCell (Nat.le_refl _) _)).mono (fun b h => Or.inl h)
        · exact (hb.out.trans (HB2.out.mono hb.out.size)).setCell (Nat.le_refl _) _
end Go.Proofs.YtbghemndcndhpaaDoor
