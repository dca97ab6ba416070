/- box.showRow, (box.Box).show of any box, (box.Box).Show: how a box shows. Conditions: numbers that are numbers; at most some 2^40 bytes; the table of powers of ten is laid. -/
import Derived.Test.YtbghemndcndhpaaDoorBoxShow
namespace Go.Proofs.YtbghemndcndhpaaDoor
open Go.RowKit

theorem showL_take (l : List Bx) : ∀ (f : Bool) (i : Nat) (hi : i < l.length), showL f (l.take (i + 1)) = showL f (l.take i) ++ (if f = true ∧ i = 0 then [] else [32]) ++ showB l[i] := by
  induction l with
  | nil => intro f i hi; simp at hi
  | cons b l ih =>
    intro f i hi
    cases i with
    | zero =>
      rw [List.take_succ_cons, List.take_zero, List.take_zero, showL, showL]
      cases f <;> simp [showL]
    | succ i =>
      rw [List.take_succ_cons, List.take_succ_cons, showL, showL, ih false i (by simpa using hi)]
      simp [List.append_assoc]

theorem wL_take (l : List Bx) (i : Nat) (hi : i < l.length) : wL (l.take i) + wB l[i] ≤ wL l := by
  induction l generalizing i with
  | nil => simp at hi
  | cons b l ih =>
    cases i with
    | zero => simp [wL]
    | succ i =>
      rw [List.take_succ_cons, wL, wL]
      have := ih i (by simpa using hi)
      simp only [List.getElem_cons_succ]
      omega

/-- What stands after so many boxes of a row. -/
def RowAt (B : Nat) (w wr : World) (so : Value) (acc : List UInt8) : Prop := Own wr B so acc ∧ Below B w wr

set_option maxHeartbeats 4000000 in
set_option maxRecDepth 100000 in
theorem showRow_any (l : List Bx) (ih : ∀ b ∈ l, ShowOk b) (S : Nat → Prop) (B g : Nat) (ov : Value) (acc : List UInt8) (w : World) (hg : g < B) (hl : BoxL S w g 0 l) (hS : ∀ k, S k → k < B) (ho : Own w B ov acc) (hB : B ≤ w.heap.size) (hok : okL l) (ht : Tab B w) (hlen : acc.length + 30 * (1 + wL l) ≤ 1099511627776) :
    Calls Tryd.prog 36 #[ov, .slice (some ⟨g, 0, none⟩) l.length l.length] w fun e w' => ∃ v', e = .returned v' ∧ Own w' B v' (acc ++ 91 :: (showL true l ++ [93])) ∧ Below B w w' := by
  obtain ⟨i0, hi0, hz0, hz1, hz2⟩ := info_parts Tryd.info5q
  have hwl := wL_len l
  obtain ⟨n, hn⟩ : ∃ n, n = l.length := ⟨_, rfl⟩
  have hsl : ∀ i, (showL true (l.take i)).length ≤ 30 * wL (l.take i) := fun i => showL_len (fun b hb => show_len b ((okL_iff l).1 hok b (List.mem_of_mem_take hb))) true
  have hst : ∀ i (hi : i < l.length), showL true (l.take (i + 1)) = showL true (l.take i) ++ (if i = 0 then [] else [32]) ++ showB l[i] := fun i hi => by
    have := showL_take l true i hi
    simpa using this
  have HW := Lib.hid (wL_take l)
  have HSL := Lib.hid hsl
  have HST := Lib.hid hst
  have HN := Lib.hid hn
  have HL := Lib.hid hl
  have HS := Lib.hid hS
  have HT := Lib.hid ht
  have HOK := Lib.hid hok
  have HIH := Lib.hid ih
  have hc1 := cells1 w (.int .u8 91) 5
  have ho1 := ho.alloc (.cells #[.int .u8 91] 5)
  have hb1 : Below B w (w.alloc (.cells #[.int .u8 91] 5)) := (Below.refl _ _).alloc hB _
  rw [← hn] at hwl ⊢
  obtain ⟨res, hres⟩ : ∃ res, res = acc ++ 91 :: (showL true l ++ [93]) := ⟨_, rfl⟩
  rw [← hres]
  have HRES := Lib.hid hres
  clear hres
  clear hl hS ht hok ih hsl hst hn ho
  have hlen2 : acc.length ≤ 1099511627776 := by omega
  go_enter Tryd.func36, Tryd.ntmps36
  go_wp2_with (at_builtin; refine wpList_append_sep _ rfl _ _ 61 rfl B 5 i0 (.int .u8 0) 1 1 Tryd.underlying61 hi0 hz0 hz1 hz2 rfl (by decide) _ _ _ rfl ho1 ⟨w.heap.size, 0, none⟩ 1 1 [Value.int .u8 91] rfl rfl hc1 (ones1 _ _) (by unfold maxLen; omega) (by omega) (by simp; omega) ?_)
  intro v2 w2 hown hgrow _
  have R2 : Hid (RowAt B w w2 v2 (acc ++ [91])) := Lib.hid ⟨own_of (l := acc ++ [91]) hown (by rw [Lib.byteCells_append]; rfl), below_own hb1 ho1 (by simp; omega) hgrow⟩
  clear hown hgrow ho1 hb1 hc1
  go_wp2
  go_loopw [0, 12] (fun so si wr => ∃ i : Nat, si = .int .i64 i ∧ i ≤ n ∧ Hid (RowAt B w wr so (acc ++ 91 :: showL true (l.take i)))) (fun _ si _ => n - (intOf si).toNat)
  case atStart => exact ⟨0, rfl, Nat.zero_le _, by simpa [showL] using R2⟩
  case round =>
    obtain ⟨i, rfl, hi, hR⟩ := hrel
    by_cases hlt : i < n
    · have hil : i < l.length := by rw [← HN.out]; exact hlt
      obtain ⟨x, hcx, hbx⟩ := HL.out.at_ i hil
      have hkeep : ∀ k, S k → S k ∧ (k < w.heap.size → wr.heap[k]? = w.heap[k]?) := fun k hk => ⟨hk, fun _ => hR.out.2.block k (HS.out k hk)⟩
      have hbxr := BoxIs.keep hkeep l[i] x hbx
      have c0 : wr.cell? ⟨g, i, none⟩ = some x := by
        have := (hR.out.2.cell (p := ⟨g, 0 + i, none⟩) hg).trans hcx
        rwa [Nat.zero_add] at this
      have hwi := HW.out i hil
      have hsi := HSL.out i
      have hBr : B ≤ wr.heap.size := Nat.le_trans hB hR.out.2.size
      have hl1 : (acc ++ 91 :: showL true (l.take i)).length ≤ acc.length + 1 + 30 * wL (l.take i) := by simp; omega
      have hform := hbxr.form
      have HBX := Lib.hid hbxr
      have ST := Lib.hid (HST.out i hil)
      have HI2 := Lib.hid (HIH.out l[i] (List.getElem_mem hil))
      have HOKi := Lib.hid ((okL_iff l).1 HOK.out l[i] (List.getElem_mem hil))
      clear hkeep hbx hbxr hcx
      obtain ⟨b, hbb⟩ : ∃ b, b = l[i] := ⟨_, rfl⟩
      rw [← hbb] at HBX ST HI2 HOKi hwi
      clear hbb hil
      obtain ⟨t2, ht2⟩ : ∃ t2, t2 = l.take (i + 1) := ⟨_, rfl⟩
      rw [← ht2] at ST
      have HTT := Lib.hid ht2
      clear ht2
      obtain ⟨t1, ht1⟩ : ∃ t1, t1 = l.take i := ⟨_, rfl⟩
      rw [← ht1] at ST hR hwi hsi hl1
      clear ht1
      have hfin : ∀ w' v', RowAt B w w' v' (acc ++ 91 :: showL true t2) → Hid (RowAt B w w' v' (acc ++ 91 :: showL true t2)) := fun _ _ h => Lib.hid h
      by_cases hi0' : i = 0
      · have hHC := HI2.out S B x u0 (acc ++ 91 :: showL true t1) (wr.alloc (.cells #[x] 29)) (HBX.out.below (alloc_below _ _)) HS.out (hR.out.1.alloc _) (by simp; omega) HOKi.out ((HT.out.below hR.out.2).below ((Below.refl _ _).alloc hBr _)) (by omega)
        have HC := Lib.hid hHC
        have HE := Lib.hid (ST.out.trans (by rw [if_pos hi0']))
        clear hHC ST HI2
        subst hi0'
        rcases hform with rfl | ⟨t, u, rfl⟩
        all_goals
          go_wp2_with fail
          refine HC.out.mono ?_
          rintro e w4 ⟨v4, rfl, ho4, hb4⟩
          have H := Lib.hid (show RowAt B w w4 v4 (acc ++ 91 :: showL true t2) from ⟨by rw [HE.out]; simpa [List.append_assoc] using ho4, (hR.out.2.alloc hBr _).trans hb4⟩)
          clear ho4 hb4
          go_wp2
          go_roundw
          case rel => exact ⟨0 + 1, by go_num, by omega, by rw [← HTT.out]; exact H⟩
          case measure => simp [intOf]; omega
      · have HE := Lib.hid (ST.out.trans (by rw [if_neg hi0']))
        have hd0 : ((i : Int) > 0) = True := by simp; omega
        have ho1 : Own ((wr.alloc (.cells #[x] 29)).alloc (.cells #[.int .u8 32] 5)) B u0 (acc ++ 91 :: showL true t1) := (hR.out.1.alloc _).alloc _
        have hb1 : Below B w ((wr.alloc (.cells #[x] 29)).alloc (.cells #[.int .u8 32] 5)) := (hR.out.2.alloc hBr _).alloc (by simp; omega) _
        have hc1 := cells1 (wr.alloc (.cells #[x] 29)) (.int .u8 32) 5
        rw [World.size_alloc] at hc1
        have hx1 : ((wr.alloc (.cells #[x] 29)).alloc (.cells #[.int .u8 32] 5)).heap[wr.heap.size]? = some (.cells #[x] 29) := by
          rw [Below.heap_alloc _ _ _ (by simp)]
          exact heap_alloc_new _ _
        have hne : some wr.heap.size ≠ u0.ownBlock := fun e => by
          have := (hR.out.1.lt _ e.symm).2
          omega
        have HK := Lib.hid (fun w3 (hg3 : ((wr.alloc (.cells #[x] 29)).alloc (.cells #[.int .u8 32] 5)).grownBy w3 u0.ownBlock) => (hg3.block wr.heap.size (by simp; omega) hne).trans hx1)
        clear ST hne hx1
        rcases hform with rfl | ⟨t, u, rfl⟩
        all_goals
          go_wp2_with (at_builtin; refine wpList_append_sep _ rfl _ _ 61 rfl B 5 i0 (.int .u8 0) 1 1 Tryd.underlying61 hi0 hz0 hz1 hz2 rfl (by decide) _ _ _ rfl ho1 ⟨wr.heap.size + 1, 0, none⟩ 1 1 [Value.int .u8 32] rfl rfl hc1 (ones1 _ _) (by unfold maxLen; omega) (by omega) (by simp; omega) ?_)
          intro v3 w3 hown hgrow _
          have R3 : Hid (RowAt B w w3 v3 ((acc ++ 91 :: showL true t1) ++ [32])) := Lib.hid ⟨own_of (l := (acc ++ 91 :: showL true t1) ++ [32]) hown (Lib.byteCells_append (acc ++ 91 :: showL true t1) [32]).symm, below_own hb1 ho1 (by simp; omega) hgrow⟩
          have o3 : One w3 wr.heap.size _ 29 := HK.out w3 hgrow
          clear hown hgrow ho1 hb1 hc1 HK c0
          have c0 := o3.c
          clear o3
          have hkeep3 : ∀ k, S k → S k ∧ (k < wr.heap.size → w3.heap[k]? = wr.heap[k]?) := fun k hk => ⟨hk, fun _ => (R3.out.2.block k (HS.out k hk)).trans (hR.out.2.block k (HS.out k hk)).symm⟩
          have HC := Lib.hid (HI2.out S B _ v3 ((acc ++ 91 :: showL true t1) ++ [32]) w3 (BoxIs.keep hkeep3 b _ HBX.out) HS.out R3.out.1 (Nat.le_trans hB R3.out.2.size) HOKi.out (HT.out.below R3.out.2) (by simp only [List.length_append, List.length_cons, List.length_nil] at hl1 ⊢; omega))
          clear hkeep3 HI2
          go_wp2_with fail
          refine HC.out.mono ?_
          rintro e w4 ⟨v4, rfl, ho4, hb4⟩
          have H := Lib.hid (show RowAt B w w4 v4 (acc ++ 91 :: showL true t2) from ⟨by rw [HE.out]; simpa [List.append_assoc] using ho4, R3.out.2.trans hb4⟩)
          clear ho4 hb4
          go_wp2
          go_roundw
          case rel => exact ⟨i + 1, by go_num, by omega, by rw [← HTT.out]; exact H⟩
          case measure => simp [intOf]; omega
    · obtain rfl : i = n := by omega
      have hE : l.take i = l := by rw [HN.out, List.take_length]
      rw [hE] at hR
      have hsi := HSL.out i
      rw [hE] at hsi
      clear hE
      have hBr : B ≤ wr.heap.size := Nat.le_trans hB hR.out.2.size
      have hc1 := cells1 wr (.int .u8 93) 5
      have hl1 : (acc ++ 91 :: showL true l).length ≤ acc.length + 1 + 30 * wL l := by simp; omega
      have HG : Hid (res = (acc ++ 91 :: showL true l) ++ [93]) := Lib.hid (by rw [HRES.out]; simp)
      clear HRES
      generalize acc ++ 91 :: showL true l = ac at *
      have ho1 := hR.out.1.alloc (.cells #[.int .u8 93] 5)
      have hb1 := hR.out.2.alloc hBr (.cells #[.int .u8 93] 5)
      go_wp2_with (at_builtin; refine wpList_append_sep _ rfl _ _ 61 rfl B 5 i0 (.int .u8 0) 1 1 Tryd.underlying61 hi0 hz0 hz1 hz2 rfl (by decide) _ _ _ rfl ho1 ⟨wr.heap.size, 0, none⟩ 1 1 [Value.int .u8 93] rfl rfl hc1 (ones1 _ _) (by unfold maxLen; omega) (by omega) (by simp; omega) ?_)
      intro v3 w3 hown hgrow _
      have R3 : Hid (RowAt B w w3 v3 (ac ++ [93])) := Lib.hid ⟨own_of (l := ac ++ [93]) hown (by rw [Lib.byteCells_append]; rfl), below_own hb1 ho1 (by simp; omega) hgrow⟩
      clear hown hgrow ho1 hb1 hc1
      go_wp2
      go_ret
      exact ⟨v3, rfl, by rw [HG.out]; exact R3.out.1, R3.out.2⟩
end Go.Proofs.YtbghemndcndhpaaDoor
