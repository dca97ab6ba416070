/- The law BoxApart: it returns true; nothing that was there has turned. Conditions: the list's cells are there; its numbers are numbers; the table of powers of ten is laid. -/
import Derived.Test.YtbghemndcndhpaaDoorBoxLives
namespace Go.Proofs.YtbghemndcndhpaaDoor
open Go.RowKit

theorem brow_keep {w w' : World} {base n : Nat} {e : TypeId} {v : Value} {xs : List Value} (h : w.ownsRow base e 1 v n xs) (hb : Below w.heap.size w w') : w'.ownsRow base e 1 v n xs := by
  refine ⟨h.1, ?_⟩
  rcases h.2 with hn | ⟨g, cap, cur, rfl, hbg, hg, rest⟩
  · exact Or.inl hn
  · exact Or.inr ⟨g, cap, cur, rfl, hbg, by rw [hb.block g (lt_of_block hg)]; exact hg, rest⟩

theorem brow_open {w : World} {base n : Nat} {e : TypeId} {v : Value} {xs : List Value} (h : w.ownsRow base e 1 v n xs) : ∃ ao c, v = .slice ao n c := by
  rcases h.2 with ⟨rfl, rfl⟩ | ⟨g, cap, cur, rfl, _⟩
  · exact ⟨none, 0, rfl⟩
  · exact ⟨_, cap, rfl⟩

theorem brow_at {w : World} {base n : Nat} {e : TypeId} {xs : List Value} {ao : Option Addr} {c : Nat} (h : w.ownsRow base e 1 (.slice ao n c) n xs) (i : Nat) (hi : i < n) : ∃ g, ao = some ⟨g, 0, none⟩ ∧ base ≤ g ∧ g < w.heap.size ∧ ∀ j, j < n → w.cell? ⟨g, j, none⟩ = xs[j]? := by
  rcases h.2 with ⟨hn, hz⟩ | ⟨g, cap, cur, hv, hb, hg, _⟩
  · omega
  · injection hv with e1 e2 e3
    subst e1 e3
    exact ⟨g, rfl, hb, lt_of_block hg, fun j hj => h.cellAt j (by omega)⟩

theorem brow_whole {w : World} {base : Nat} {e : TypeId} {g : Nat} {xs : List Value} (h : Whole w e g xs) (hb : base ≤ g) (hl : xs.length ≤ maxLen) : w.ownsRow base e 1 (.slice (some ⟨g, 0, none⟩) xs.length xs.length) xs.length xs :=
  ⟨by omega, Or.inr ⟨g, xs.length, xs.toArray, rfl, hb, h, Nat.le_refl _, hl, by simp, by simp⟩⟩

/-- A row that is written, a box in its cell, and all below: apart. -/
structure Apart (w wr : World) (n kb g : Nat) (v row : Value) (bs : List Bx) : Prop where
  own : ∃ xs, wr.ownsRow w.heap.size 29 1 row n xs
  one : One wr kb v 29
  bx : BoxIs (fun k => k = g) wr (.list bs) v
  ne1 : row.ownBlock ≠ some g
  ne2 : row.ownBlock ≠ some kb
  below : Below w.heap.size w wr
  lt : g < wr.heap.size

theorem Apart.keep {w wr w' : World} {n kb g : Nat} {v row : Value} {bs : List Bx} (h : Apart w wr n kb g v row bs) (hb : Below wr.heap.size wr w') : Apart w w' n kb g v row bs := by
  obtain ⟨⟨xs, ho⟩, h1, h2, h3, h4, h5, h6⟩ := h
  exact ⟨⟨xs, brow_keep ho hb⟩, h1.keep hb, h2.below hb, h3, h4, h5.trans (hb.mono h5.size), Nat.lt_of_lt_of_le h6 hb.size⟩

theorem Apart.store {w wr : World} {n kb g k c i : Nat} {v : Value} {bs : List Bx} (h : Apart w wr n kb g v (.slice (some ⟨k, 0, none⟩) n c) bs) (u : Value) : Apart w (wr.setCell ⟨k, i, none⟩ u) n kb g v (.slice (some ⟨k, 0, none⟩) n c) bs := by
  obtain ⟨⟨xs, ho⟩, h1, h2, h3, h4, h5, h6⟩ := h
  have e1 : g ≠ k := fun e => h3 (by rw [e]; rfl)
  have e2 : kb ≠ k := fun e => h4 (by rw [e]; rfl)
  refine ⟨⟨_, (ho.stored i u).1⟩, ?_, ?_, h3, h4, h5.setCell (ho.lt k rfl).1 u, by simpa using h6⟩
  · unfold One at *
    rw [Below.heap_setCell _ _ _ _ e2]
    exact h1
  · exact BoxIs.keep (fun b hb => ⟨hb, fun _ => by subst hb; exact Below.heap_setCell _ _ _ _ e1⟩) _ _ h2

theorem Apart.list {w wr : World} {n kb g : Nat} {v row : Value} {bs : List Bx} (h : Apart w wr n kb g v row bs) : ∃ d, v = .iface 58 (.agg #[.slice (some ⟨g, 0, none⟩) bs.length bs.length, .int .i64 d]) := by
  have := h.bx
  rw [BoxIs] at this
  obtain ⟨g', e, hg, _⟩ := this
  subst hg
  exact ⟨_, e⟩

/-- Another row in the written one's place. -/
theorem Apart.turn {w wr w' : World} {n n' kb g : Nat} {v row row' : Value} {bs : List Bx} {xs : List Value} (h : Apart w wr n kb g v row bs) (hb : Below wr.heap.size wr w') (ho : w'.ownsRow wr.heap.size 29 1 row' n' xs) : Apart w w' n' kb g v row' bs := by
  obtain ⟨_, h1, h2, h3, h4, h5, h6⟩ := h.keep hb
  refine ⟨⟨xs, ho.1, ?_⟩, h1, h2, (fun e => by have := (ho.lt _ e).1; have := h.lt; omega), (fun e => by have := (ho.lt _ e).1; have := h.one.lt; omega), h5, h6⟩
  rcases ho.2 with hn | ⟨k, cap, cur, rfl, hk, rest⟩
  · exact Or.inl hn
  · exact Or.inr ⟨k, cap, cur, rfl, Nat.le_trans h.below.size hk, rest⟩

theorem Apart.at_ {w wr : World} {n kb g c i : Nat} {v : Value} {ao : Option Addr} {bs : List Bx} (h : Apart w wr n kb g v (.slice ao n c) bs) (hi : i < n) : ∃ k u, ao = some ⟨k, 0, none⟩ ∧ wr.cell? ⟨k, i, none⟩ = some u ∧ wr.frozen? ⟨k, i, none⟩ = false := by
  obtain ⟨xs, ho⟩ := h.own
  obtain ⟨k, rfl, _, _, hc⟩ := brow_at ho i hi
  have hl : xs.length = n := by have := ho.1; omega
  exact ⟨k, xs[i], rfl, (hc i hi).trans (List.getElem?_eq_getElem (by omega)), ho.frozenAt i⟩

def nums (zs : List Nat) : List Value := zs.map fun z => .iface 22 (.int .u64 (z : Nat))

theorem maxD_num (zs : List Nat) : maxD (zs.map Bx.number) = 0 := by
  induction zs with
  | nil => rfl
  | cons z zs ih => rw [List.map_cons, maxD, ih, deepB]; rfl

theorem rdB_nums {w : World} {B n : Nat} {v : Value} {zs : List Nat} (h : w.ownsRow B 29 1 v n (nums zs)) : RdB (fun _ => False) w v (zs.map Bx.number) := by
  refine ⟨nums zs, rd_of_owns h, by simp [nums], fun i h1 h2 => ?_⟩
  simp only [nums, List.getElem_map]
  rw [BoxIs]

theorem nums_take (zs : List Nat) (i : Nat) (hi : i < zs.length) : nums (zs.take (i + 1)) = nums (zs.take i) ++ [.iface 22 (.int .u64 (zs[i] : Nat))] := by
  unfold nums
  rw [List.take_succ_eq_append_getElem hi, List.map_append]
  rfl

theorem one_box (u : Value) (t : TypeId) : ∀ x ∈ [Value.iface t u], x.oneCell' = true := by
  intro x hx; simp at hx; subst hx; rfl

set_option maxHeartbeats 4000000 in
set_option maxRecDepth 100000 in
theorem apart_short (ao : Option Addr) (n c : Nat) (zs : List Nat) (w : World) (hr : Rd w (.slice ao n c) (zs.map fun z => .int .u64 (z : Nat))) (hn : n ≤ 100) (ht : Tab w.heap.size w) :
    Calls Tryd.prog 5 #[.slice ao n c] w fun e w' => e = .returned (.bool true) ∧ Below w.heap.size w w' := by
  obtain ⟨i0, hi, hz0, hz1, hz2⟩ := info_parts infoBox
  have hlen : zs.length = n := by have := hr.len.1; simpa using this
  have HLN := Lib.hid hlen
  have HR := Lib.hid hr
  have HT := Lib.hid ht
  have HI := Lib.hid (show _ ∧ _ ∧ _ ∧ _ from ⟨hi, hz0, hz1, hz2⟩)
  clear hr ht hlen hi hz0 hz1 hz2
  go_enter Tryd.func5, Tryd.ntmps5
  go_wp2
  go_loopw [3, 23] (fun sv si wr => ∃ i : Nat, si = .int .i64 i ∧ i ≤ n ∧ Hid (wr.ownsRow w.heap.size 29 1 sv i (nums (zs.take i)) ∧ Below w.heap.size w wr)) (fun _ si _ => n - (intOf si).toNat)
  case atStart => exact ⟨0, rfl, Nat.zero_le _, Lib.hid ⟨World.ownsRow_nil _ _ _ _, Below.refl _ _⟩⟩
  case round =>
    obtain ⟨i, rfl, hi, hR⟩ := hrel
    by_cases hlt : i < n
    · obtain ⟨g, o, rfl, hc⟩ := (HR.out.keep hR.out.2).cellAt i hlt
      have hil : i < zs.length := by rw [HLN.out]; exact hlt
      have hcz : (zs.map fun z => Value.int .u64 (z : Nat)).getD i .nilIface = .int .u64 (zs[i] : Nat) := by
        rw [List.getD_eq_getElem?_getD, List.getElem?_eq_getElem (by simpa using hil)]
        simp
      rw [hcz] at hc
      have HST := Lib.hid (nums_take zs i hil)
      obtain ⟨z, hz⟩ : ∃ z, z = zs[i] := ⟨_, rfl⟩
      rw [← hz] at HST hc
      clear hcz hil hz
      go_wp2_with fail
      refine (newnumber_any (fun _ => False) z wr).mono ?_
      rintro e w1 ⟨v, rfl, hv, hb1⟩
      rw [BoxIs] at hv
      subst hv
      have ho1 := (brow_keep hR.out.1 hb1).alloc (.cells #[.iface 22 (.int .u64 z)] 29)
      have hbb : Below w.heap.size w (w1.alloc (.cells #[.iface 22 (.int .u64 z)] 29)) := (hR.out.2.trans (hb1.mono hR.out.2.size)).alloc (Nat.le_trans hR.out.2.size hb1.size) _
      have hB1 : w.heap.size ≤ (w1.alloc (.cells #[.iface 22 (.int .u64 z)] 29)).heap.size := hbb.size
      have hc1 := cells1 w1 (.iface 22 (.int .u64 z)) 29
      clear hc
      go_wp2_with ((with_reducible show wpList _ _ _ (⟨some 31, _, _, _, _, _⟩ :: _) _ _); refine wpList_append_sep (o := ⟨some 31, _, _, _, _, _⟩) _ rfl _ _ 38 rfl w.heap.size 29 i0 (.agg #[.nilIface]) 1 16 Tryd.underlying38 HI.out.1 HI.out.2.1 HI.out.2.2.1 HI.out.2.2.2 rfl (by decide) _ _ _ rfl ho1 ⟨w1.heap.size, 0, none⟩ 1 1 [.iface 22 (.int .u64 z)] rfl rfl hc1 (one_box _ _) (by unfold maxLen; omega) (by omega) hB1 ?_)
      intro v2 w2 hown hgrow _
      have H := Lib.hid (show w2.ownsRow w.heap.size 29 1 v2 (i + 1) (nums (zs.take (i + 1))) ∧ Below w.heap.size w w2 from ⟨by rw [HST.out]; exact hown, hbb.grown hgrow hB1 (fun k hk => (ho1.lt k hk).1)⟩)
      clear hown hgrow ho1 hbb hB1 hc1
      go_wp2
      go_roundw
      case rel => exact ⟨i + 1, by go_num, by omega, H⟩
      case measure => simp [intOf]; omega
    · obtain rfl : i = n := by omega
      have hR2 := hR.out
      rw [show zs.take i = zs by rw [← HLN.out, List.take_length]] at hR2
      obtain ⟨ao3, c3, rfl⟩ := brow_open hR2.1
      have HO := Lib.hid hR2.1
      have HB := Lib.hid hR2.2
      clear hR hR2
      have HNL := Lib.hid (newlist_any (fun _ => False) _ (zs.map Bx.number) wr (rdB_nums HO.out) (by rw [maxD_num]; omega) (by rw [List.length_map, HLN.out]; omega))
      go_wp2_with fail
      refine HNL.out.mono ?_
      rintro e w2 ⟨v, rfl, hv, hb2⟩
      rw [if_neg (by rw [maxD_num]; omega)] at hv
      have hv2 := hv
      rw [BoxIs] at hv2
      obtain ⟨g, hvg, hg, hbl⟩ := hv2
      have hgr : wr.heap.size ≤ g ∧ g < w2.heap.size := by
        rcases hg with h | h
        · exact h.elim
        · exact h
      have hbx : BoxIs (fun k => k = g) w2 (.list (zs.map Bx.number)) v := by
        rw [BoxIs]
        refine ⟨g, hvg, rfl, BoxL.mk (fun j hj => ?_)⟩
        obtain ⟨u, hu, hub⟩ := hbl.at_ j hj
        refine ⟨u, hu, ?_⟩
        rw [List.getElem_map] at hub ⊢
        rw [BoxIs] at hub ⊢
        exact hub
      have hown2 := brow_keep HO.out hb2
      have hA : Apart w (w2.alloc (.cells #[v] 29)) i w2.heap.size g v (.slice ao3 i c3) (zs.map Bx.number) :=
        ⟨⟨_, hown2.alloc _⟩, One.alloc _ _ _, hbx.below (alloc_below _ _), (fun e => by have := (HO.out.lt _ e).2; omega), (fun e => by have := (hown2.lt _ e).2; omega), (HB.out.trans (hb2.mono HB.out.size)).alloc (Nat.le_trans HB.out.size hb2.size) _, by simp; omega⟩
      have hgB : w.heap.size ≤ g := Nat.le_trans HB.out.size hgr.1
      have hkB : w.heap.size ≤ w2.heap.size := Nat.le_trans HB.out.size hb2.size
      have HA := Lib.hid hA
      clear hA hown2 hbx hbl hg hgr hb2 hv HNL HO HB
      obtain ⟨d, rfl⟩ := HA.out.list
      rw [List.length_map, HLN.out] at hvg HA ⊢
      clear hvg
      go_wp2
      go_loopw [37] (fun si wr => ∃ j : Nat, si = .int .i64 j ∧ j ≤ i ∧ Hid (Apart w wr i w2.heap.size g (.iface 58 (.agg #[.slice (some ⟨g, 0, none⟩) i i, .int .i64 d])) (.slice ao3 i c3) (zs.map Bx.number))) (fun si _ => i - (intOf si).toNat)
      case atStart => exact ⟨0, rfl, Nat.zero_le _, HA⟩
      case round =>
        obtain ⟨j, rfl, hj, hR⟩ := hrel
        by_cases hlt2 : j < i
        · go_wp2_with fail
          refine (newtext_any (fun _ => False) _ wr).mono ?_
          rintro e w3 ⟨v, rfl, hv, hb3⟩
          rw [BoxIs] at hv
          subst hv
          have hA3 := hR.out.keep hb3
          obtain ⟨k, u, rfl, hc, hf⟩ := hA3.at_ hlt2
          have H := Lib.hid (hA3.store (i := j) (.iface 9 (.string ⟨#[120]⟩)))
          clear hA3 hb3
          go_wp2
          go_roundw
          case rel => exact ⟨j + 1, by go_num, by omega, H⟩
          case measure => simp [intOf]; omega
        · obtain rfl : j = i := by omega
          have c0 := hR.out.one.c
          have HL := Lib.hid (listOf_any (fun k => k = g) _ _ wr hR.out.bx (fun l h => by injection h with h; subst h; rw [List.length_map, HLN.out]; omega))
          go_wp2_with fail
          refine HL.out.mono ?_
          rintro e w3 h3
          obtain ⟨l, g3, xs, el, rfl, hg3, hW3, hxl, hx3, hb3⟩ | ⟨h, _⟩ := h3
          rotate_left
          · exact absurd rfl (h _)
          injection el with el
          have hll : l.length = j := by rw [← el, List.length_map, HLN.out]
          rw [hll] at hxl ⊢
          have hA3 := hR.out.turn hb3 (brow_whole hW3 hg3 (by rw [hxl]; unfold maxLen; omega))
          rw [hxl] at hA3
          have HA3 := Lib.hid hA3
          clear hA3 hW3 hx3 hb3 el hll c0 HL hg3
          go_wp2
          go_loopw [61] (fun si wr => ∃ i : Nat, si = .int .i64 i ∧ i ≤ j ∧ Hid (Apart w wr j w2.heap.size g (.iface 58 (.agg #[.slice (some ⟨g, 0, none⟩) j j, .int .i64 d])) (.slice (some ⟨g3, 0, none⟩) j j) (zs.map Bx.number))) (fun si _ => j - (intOf si).toNat)
          case atStart => exact ⟨0, rfl, Nat.zero_le _, HA3⟩
          case round =>
            obtain ⟨i, rfl, hi, hR3⟩ := hrel
            by_cases hlt3 : i < j
            · go_wp2_with fail
              refine (newtext_any (fun _ => False) _ _).mono ?_
              rintro e w4 ⟨v, rfl, hv, hb4⟩
              rw [BoxIs] at hv
              subst hv
              have hA4 := hR3.out.keep hb4
              obtain ⟨k, u, hk, hc, hf⟩ := hA4.at_ hlt3
              injection hk with hk
              injection hk with hk
              subst hk
              have H := Lib.hid (hA4.store (i := i) (.iface 9 (.string ⟨#[121]⟩)))
              clear hA4 hb4
              go_wp2
              go_roundw
              case rel => exact ⟨i + 1, by go_num, by omega, H⟩
              case measure => simp [intOf]; omega
            · obtain rfl : i = j := by omega
              have c0 := hR3.out.one.c
              have HL := Lib.hid (listOf_any (fun k => k = g) _ _ wr hR3.out.bx (fun l h => by injection h with h; subst h; rw [List.length_map, HLN.out]; omega))
              go_wp2_with fail
              refine HL.out.mono ?_
              rintro e w4 h4
              obtain ⟨l2, g4, ys, el, rfl, hg4, hW4, hyl, hy4, hb4⟩ | ⟨h, _⟩ := h4
              rotate_left
              · exact absurd rfl (h _)
              injection el with el
              subst el
              have hll : (zs.map Bx.number).length = i := by rw [List.length_map, HLN.out]
              have hys : ys = nums zs := by
                refine List.ext_getElem (by rw [hyl]; simp [nums]) (fun k h1 h2 => ?_)
                have h3 : k < zs.length := by simpa [nums] using h2
                have := hy4 k (by simpa using h3) h1
                rw [List.getElem_map] at this
                simp only [nums, List.getElem_map]
                exact this.numv
              subst hys
              have H4 := Lib.hid (show Below w.heap.size w w4 ∧ Whole w4 29 g4 (nums zs) from ⟨hR3.out.below.trans (hb4.mono hR3.out.below.size), hW4⟩)
              rw [hll]
              clear hW4 hb4 hy4 hyl hg4 HL c0 hll
              go_wp2
              go_loopw [81] (fun si wr => ∃ k : Nat, si = .int .i64 k ∧ k ≤ i ∧ Hid (Below w.heap.size w wr ∧ Whole wr 29 g4 (nums zs))) (fun si _ => i - (intOf si).toNat)
              case atStart => exact ⟨0, rfl, Nat.zero_le _, H4⟩
              case round =>
                obtain ⟨k, rfl, hk, hR4⟩ := hrel
                by_cases hlt4 : k < i
                · have hkl : k < zs.length := by rw [HLN.out]; exact hlt4
                  have hc4 := hR4.out.2.cell k
                  rw [List.getElem?_eq_getElem (by simpa [nums] using hkl)] at hc4
                  simp only [nums, List.getElem_map] at hc4
                  obtain ⟨ga, o, rfl, hca⟩ := (HR.out.keep hR4.out.1).cellAt k hlt4
                  have hcz : (zs.map fun z => Value.int .u64 (z : Nat)).getD k .nilIface = .int .u64 (zs[k] : Nat) := by
                    rw [List.getD_eq_getElem?_getD, List.getElem?_eq_getElem (by simpa using hkl)]
                    simp
                  rw [hcz] at hca
                  obtain ⟨z, hz⟩ : ∃ z, z = zs[k] := ⟨_, rfl⟩
                  rw [← hz] at hca hc4
                  have hga : ga < wr.heap.size := World.block_lt_of_cell? _ _ hca
                  have HN := Lib.hid (numOf_any (fun _ => False) (.number z) (.iface 22 (.int .u64 z)) (wr.alloc (.cells #[.iface 22 (.int .u64 z)] 29)) (by rw [BoxIs]))
                  have HCA := Lib.hid hca
                  clear hcz hkl hz hca
                  go_wp2_with fail
                  refine HN.out.mono ?_
                  rintro e w5 ⟨rfl, hb5⟩
                  simp only [numOf]
                  have hbb := (alloc_below wr (.cells #[.iface 22 (.int .u64 z)] 29)).trans (hb5.mono (by simp))
                  have hca := (hbb.cell (p := ⟨ga, o + k, none⟩) hga).trans HCA.out
                  have H5 := Lib.hid (show Below w.heap.size w w5 ∧ Whole w5 29 g4 (nums zs) from ⟨hR4.out.1.trans (hbb.mono hR4.out.1.size), hR4.out.2.keep hbb⟩)
                  clear hbb hb5 hc4
                  go_wp2
                  all_goals first | (exfalso; simp at *; done) | skip
                  go_roundw
                  case rel => exact ⟨k + 1, by go_num, by omega, H5⟩
                  case measure => simp [intOf]; omega
                · obtain rfl : k = i := by omega
                  have HLV := Lib.hid (lives_any wr ((HT.out.below hR4.out.1).at_ hR4.out.1.size))
                  go_wp2_with fail
                  refine HLV.out.mono ?_
                  rintro e w5 ⟨rfl, hb5⟩
                  have H5 := Lib.hid (hR4.out.1.trans (hb5.mono hR4.out.1.size))
                  clear hb5
                  go_wp2
                  go_ret
                  exact ⟨rfl, H5.out⟩

set_option maxHeartbeats 1000000 in
theorem apart_long (ao : Option Addr) (n c : Nat) (w : World) (hn : 100 < n) (hm : n ≤ 9223372036854775807) (ht : Tab w.heap.size w) :
    Calls Tryd.prog 5 #[.slice ao n c] w fun e w' => e = .returned (.bool true) ∧ Below w.heap.size w w' := by
  have HLV := Lib.hid (lives_any w ht)
  clear ht
  go_enter Tryd.func5, Tryd.ntmps5
  go_wp2_with fail
  refine HLV.out.mono ?_
  rintro e w5 ⟨rfl, hb5⟩
  have H5 := Lib.hid hb5
  clear hb5
  go_wp2
  go_ret
  exact ⟨rfl, H5.out⟩

theorem apart_any (ao : Option Addr) (n c : Nat) (zs : List Nat) (w : World) (hr : Rd w (.slice ao n c) (zs.map fun z => .int .u64 (z : Nat))) (ht : Tab w.heap.size w) :
    Calls Tryd.prog 5 #[.slice ao n c] w fun e w' => e = .returned (.bool true) ∧ Below w.heap.size w w' := by
  by_cases h : n ≤ 100
  · exact apart_short ao n c zs w hr h ht
  · exact apart_long ao n c w (by omega) (by have := hr.len; omega) ht
end Go.Proofs.YtbghemndcndhpaaDoor
