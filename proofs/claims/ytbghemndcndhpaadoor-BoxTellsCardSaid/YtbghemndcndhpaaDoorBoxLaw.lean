/- bowerlaw05.Box: an item's box. Conditions: the item's numbers are numbers; at most 2^30 items. -/
import Derived.Test.YtbghemndcndhpaaDoorBoxApart
namespace Go.Proofs.YtbghemndcndhpaaDoor
open Go.RowKit

/-- A box in new memory. -/
def NewBox (w w' : World) (e : Ending) (b : Bx) : Prop := ∃ u, e = .returned (.agg #[u]) ∧ BoxIs (fun k => w.heap.size ≤ k ∧ k < w'.heap.size) w' b u ∧ Below w.heap.size w w'

def LawOk (x : Itm) : Prop := ∀ (S : Nat → Prop) (v : Value) (w : World), Sits S w x v → okI x → wI x ≤ 1073741824 →
  Calls Tryd.prog 8 #[v] w fun e w' => NewBox w w' e (cutB (bxI x))

set_option maxHeartbeats 4000000 in
set_option maxRecDepth 100000 in
theorem law_plain (k n : Int) (s : ByteArray) (l : List Itm) (hk : k ≠ 4) : LawOk (.mk k n s l) := by
  intro S v w hs hok hw
  rw [Sits] at hs
  obtain ⟨ao, c, rfl, hc, _⟩ := hs
  rw [okI] at hok
  obtain ⟨m, rfl⟩ : ∃ m : Nat, n = m := ⟨n.toNat, by omega⟩
  rw [wI] at hw
  obtain ⟨nl, hnl⟩ : ∃ nl, nl = l.length := ⟨_, rfl⟩
  rw [← hnl]
  have hm : (m : Int) < 18446744073709551616 := hok.1.2
  have e4 : (k == 4) = false := by simpa using hk
  have HK4 := Lib.hid hk
  clear hok hw hnl hc hk
  have HB0 := Lib.hid (((one_alloc w (.cells #[.int .i64 k, .int .u64 (m : Nat), .string s, .slice ao nl c] 25)).2.alloc (by simp) (.cells #[.nilIface] 29)))
  have HO : Hid (One ((w.alloc (.cells #[.int .i64 k, .int .u64 (m : Nat), .string s, .slice ao nl c] 25)).alloc (.cells #[.nilIface] 29)) (w.heap.size + 1) .nilIface 29) := Lib.hid (by
    have := One.alloc (w.alloc (.cells #[.int .i64 k, .int .u64 (m : Nat), .string s, .slice ao nl c] 25)) .nilIface 29
    rw [World.size_alloc] at this
    exact this)
  have HRX : Hid (cutB (bxI (.mk k m s l)) = if k = 1 then .truth (decide ((m : Int) % 2 = 1)) else if k = 2 then .number m else if k = 3 then .text s else .nothing) := Lib.hid (by
    rw [bxI, if_neg HK4.out]
    repeat (split; simp [cutB])
    simp [cutB])
  by_cases h1 : k = 1
  · subst h1
    have HR := Lib.hid (HRX.out.trans (if_pos rfl))
    clear HRX e4
    go_enter Tryd.func8, Tryd.ntmps8
    go_wp2_with fail
    refine (newtruth_any (fun _ => False) _ _).mono ?_
    rintro e w1 ⟨v, rfl, hv, hb1⟩
    have o1 := HO.out.keep hb1
    have c0 := o1.c
    have f0 := o1.f (i := 0)
    have z0 := (o1.set (u := v)).c
    have HF := Lib.hid (show NewBox w (w1.setCell ⟨w.heap.size + 1, 0, none⟩ v) (.returned (.agg #[v])) (cutB (bxI (.mk 1 m s l))) from ⟨v, rfl, by rw [HR.out]; exact (hv.below (Below.refl _ _) |> fun h => by rw [BoxIs] at h ⊢; exact h), (HB0.out.trans (hb1.mono HB0.out.size)).setCell (by simp) _⟩)
    have hform := hv.form
    clear hv hb1 o1
    rcases hform with rfl | ⟨t, u, rfl⟩
    all_goals
      go_wp2
      refine bodyPost_ret (v := .agg #[_]) (by simp [results, Tryd.results8, go_sem, z0]) rfl HF.out
  by_cases h2 : k = 2
  · subst h2
    have HR := Lib.hid (HRX.out.trans ((if_neg (by omega)).trans (if_pos rfl)))
    clear HRX e4
    go_enter Tryd.func8, Tryd.ntmps8
    go_wp2_with fail
    refine (newnumber_any (fun _ => False) m _).mono ?_
    rintro e w1 ⟨v, rfl, hv, hb1⟩
    have o1 := HO.out.keep hb1
    have c0 := o1.c
    have f0 := o1.f (i := 0)
    have z0 := (o1.set (u := v)).c
    have HF := Lib.hid (show NewBox w (w1.setCell ⟨w.heap.size + 1, 0, none⟩ v) (.returned (.agg #[v])) (cutB (bxI (.mk 2 m s l))) from ⟨v, rfl, by rw [HR.out]; exact (hv.below (Below.refl _ _) |> fun h => by rw [BoxIs] at h ⊢; exact h), (HB0.out.trans (hb1.mono HB0.out.size)).setCell (by simp) _⟩)
    have hform := hv.form
    clear hv hb1 o1
    rcases hform with rfl | ⟨t, u, rfl⟩
    all_goals
      go_wp2
      refine bodyPost_ret (v := .agg #[_]) (by simp [results, Tryd.results8, go_sem, z0]) rfl HF.out
  by_cases h3 : k = 3
  · subst h3
    have HR := Lib.hid (HRX.out.trans ((if_neg (by omega)).trans ((if_neg (by omega)).trans (if_pos rfl))))
    clear HRX e4
    go_enter Tryd.func8, Tryd.ntmps8
    go_wp2_with fail
    refine (newtext_any (fun _ => False) s _).mono ?_
    rintro e w1 ⟨v, rfl, hv, hb1⟩
    have o1 := HO.out.keep hb1
    have c0 := o1.c
    have f0 := o1.f (i := 0)
    have z0 := (o1.set (u := v)).c
    have HF := Lib.hid (show NewBox w (w1.setCell ⟨w.heap.size + 1, 0, none⟩ v) (.returned (.agg #[v])) (cutB (bxI (.mk 3 m s l))) from ⟨v, rfl, by rw [HR.out]; exact (hv.below (Below.refl _ _) |> fun h => by rw [BoxIs] at h ⊢; exact h), (HB0.out.trans (hb1.mono HB0.out.size)).setCell (by simp) _⟩)
    have hform := hv.form
    clear hv hb1 o1
    rcases hform with rfl | ⟨t, u, rfl⟩
    all_goals
      go_wp2
      refine bodyPost_ret (v := .agg #[_]) (by simp [results, Tryd.results8, go_sem, z0]) rfl HF.out
  have HR := Lib.hid (HRX.out.trans ((if_neg h1).trans ((if_neg h2).trans (if_neg h3))))
  have e1 : (k == 1) = false := by simpa using h1
  have e2 : (k == 2) = false := by simpa using h2
  have e3 : (k == 3) = false := by simpa using h3
  have c0 := HO.out.c
  have f0 := HO.out.f (i := 0)
  have z0 := (HO.out.set (u := .nilIface)).c
  have HF := Lib.hid (show NewBox w ((w.alloc (.cells #[.int .i64 k, .int .u64 (m : Nat), .string s, .slice ao nl c] 25)).alloc (.cells #[.nilIface] 29)) (.returned (.agg #[.nilIface])) (cutB (bxI (.mk k m s l))) from ⟨.nilIface, rfl, by rw [HR.out, BoxIs], HB0.out⟩)
  clear HRX h1 h2 h3
  go_enter Tryd.func8, Tryd.ntmps8
  go_wp2
  refine bodyPost_ret (v := .agg #[.nilIface]) (by simp [results, Tryd.results8, go_sem]) rfl HF.out

theorem wIs_len (l : List Itm) : l.length ≤ wIs l := by
  induction l with
  | nil => simp [wIs]
  | cons x l ih =>
    rw [wIs, List.length_cons]
    have : 1 ≤ wI x := by cases x; rw [wI]; omega
    omega
theorem wIs_mem {l : List Itm} {x : Itm} (h : x ∈ l) : wI x ≤ wIs l := by
  induction l with
  | nil => cases h
  | cons y l ih =>
    rw [wIs]
    rcases List.mem_cons.1 h with rfl | h
    · omega
    · have := ih h; omega

/-- After so many items: the row of their boxes. -/
def BoxRow (w wr : World) (so : Value) (l : List Itm) (i : Nat) : Prop :=
  ∃ xs, wr.ownsRow w.heap.size 29 1 so i xs ∧ (∀ j (h : j < l.length) (h2 : j < xs.length), BoxIs (fun k => w.heap.size ≤ k ∧ k < wr.heap.size ∧ so.ownBlock ≠ some k) wr (cutB (bxI l[j])) xs[j]) ∧ Below w.heap.size w wr

theorem row_add {w wr w1 w2 : World} {so v2 u : Value} {l : List Itm} {i : Nat} (h : BoxRow w wr so l i) (hi : i < l.length) (hb1 : Below wr.heap.size wr w1) (hu : BoxIs (fun k => wr.heap.size ≤ k ∧ k < w1.heap.size) w1 (cutB (bxI l[i])) u)
    (xs : List Value) (hxs : w1.ownsRow w.heap.size 29 1 so i xs) (hx : ∀ j (h : j < l.length) (h2 : j < xs.length), BoxIs (fun k => w.heap.size ≤ k ∧ k < w1.heap.size ∧ so.ownBlock ≠ some k) w1 (cutB (bxI l[j])) xs[j])
    (hown : w2.ownsRow w.heap.size 29 1 v2 (i + 1) (xs ++ [u])) (hg : (w1.alloc (.cells #[u] 29)).grownBy w2 so.ownBlock) (hsep : Sep (w1.alloc (.cells #[u] 29)) so v2) (hB : w.heap.size ≤ wr.heap.size) : BoxRow w w2 v2 l (i + 1) := by
  obtain ⟨_, ho0, _, hb⟩ := h
  have hlen : xs.length = i := by have := hxs.1; omega
  have hsz : w1.heap.size ≤ w2.heap.size := by have := hg.size; simp at this; omega
  have hlo : ∀ k, so.ownBlock = some k → k < wr.heap.size := fun k e => (ho0.lt k e).2
  have hne : ∀ k, k < w1.heap.size → so.ownBlock ≠ some k → v2.ownBlock ≠ some k := fun k hk h1 => by
    rcases hsep with e | ⟨g, e, hge⟩
    · rw [e]; exact h1
    · rw [e]
      intro e2
      injection e2 with e2
      simp at hge
      omega
  have hblk : ∀ k, k < w1.heap.size → so.ownBlock ≠ some k → w2.heap[k]? = w1.heap[k]? := fun k hk h1 => (hg.block k (by simp; omega) (fun e => h1 e.symm)).trans (Below.heap_alloc _ _ _ hk)
  refine ⟨xs ++ [u], hown, fun j hj h2 => ?_, ?_⟩
  · by_cases hji : j < i
    · rw [List.getElem_append_left (by omega)]
      exact BoxIs.keep (fun k hk => ⟨⟨hk.1, by omega, hne k hk.2.1 hk.2.2⟩, fun _ => hblk k hk.2.1 hk.2.2⟩) _ _ (hx j hj (by omega))
    · have hje : j = i := by simp at h2; omega
      subst hje
      have e : (xs ++ [u])[j] = u := by
        rw [List.getElem_append_right (by omega)]
        simp [hlen]
      rw [e]
      exact BoxIs.keep (fun k hk => by
        have h3 : so.ownBlock ≠ some k := fun e => by have := hlo k e; omega
        exact ⟨⟨by omega, by omega, hne k hk.2 h3⟩, fun _ => hblk k hk.2 h3⟩) _ _ hu
  · have hw1 : w.heap.size ≤ w1.heap.size := Nat.le_trans hB hb1.size
    exact ((hb.trans (hb1.mono hB)).alloc hw1 _).grown hg (by simp; omega) (fun k hk => (ho0.lt k hk).1)

theorem cutL_bxIs (l : List Itm) : cutL (bxIs l) = l.map fun x => cutB (bxI x) := by
  rw [bxIs_map, cutL_map, List.map_map]
  rfl

theorem info4 : (Tryd.prog.info? 25).map (·.size) = some 4 := by kernel_rfl

set_option maxHeartbeats 8000000 in
set_option maxRecDepth 100000 in
theorem law_list (n : Int) (s : ByteArray) (l : List Itm) (ih : ∀ x ∈ l, LawOk x) : LawOk (.mk 4 n s l) := by
  intro S v w hs hok hw
  rw [Sits] at hs
  obtain ⟨ao, c, rfl, hc, hsl⟩ := hs
  rw [okI, okIs_iff] at hok
  obtain ⟨m, rfl⟩ : ∃ m : Nat, n = m := ⟨n.toNat, by omega⟩
  rw [wI] at hw
  have hm : (m : Int) < 18446744073709551616 := hok.1.2
  have HR : Hid (cutB (bxI (.mk 4 m s l)) = if 32 ≤ maxD (cutL (bxIs l)) then .nothing else .list (cutL (bxIs l))) := Lib.hid (by
    rw [bxI, if_neg (by omega), if_neg (by omega), if_neg (by omega), if_pos rfl, cutB])
  obtain ⟨i0, hi0, hz0, hz1, hz2⟩ := info_parts infoBox
  have HI := Lib.hid (show _ ∧ _ ∧ _ ∧ _ from ⟨hi0, hz0, hz1, hz2⟩)
  obtain ⟨N, hN⟩ : ∃ N, N = l.length := ⟨_, rfl⟩
  have hNw : N ≤ 1073741824 := by
    have := wIs_len l
    omega
  rw [← hN] at hc ⊢
  obtain ⟨W2, hW2⟩ : ∃ W2, W2 = (w.alloc (.cells #[.int .i64 4, .int .u64 (m : Nat), .string s, .slice ao N c] 25)).alloc (.cells #[.nilIface] 29) := ⟨_, rfl⟩
  have hsz2 : W2.heap.size = w.heap.size + 2 := by rw [hW2]; simp
  have hb0 : Below w.heap.size w W2 := by rw [hW2]; exact (one_alloc w _).2.alloc (by simp) _
  have ho0 : One W2 (w.heap.size + 1) .nilIface 29 := by
    have := One.alloc (w.alloc (.cells #[.int .i64 4, .int .u64 (m : Nat), .string s, .slice ao N c] 25)) .nilIface 29
    rw [World.size_alloc] at this
    rw [hW2]
    exact this
  have R0 : Hid (BoxRow W2 W2 (.slice none 0 0) l 0) := Lib.hid ⟨[], World.ownsRow_nil _ _ _ _, fun j h h2 => absurd h2 (by simp), Below.refl _ _⟩
  have HN := Lib.hid hN
  have HW2 := Lib.hid hW2
  have HSZ := Lib.hid hsz2
  have HB0 := Lib.hid hb0
  have HO := Lib.hid ho0
  have HSL := Lib.hid hsl
  have HOK := Lib.hid hok.2.2
  have HIH := Lib.hid ih
  have HWI := Lib.hid (show ∀ x ∈ l, wI x ≤ 1073741824 from fun x hx => by have := wIs_mem hx; omega)
  clear hi0 hz0 hz1 hz2 hN hW2 hsz2 hb0 ho0 hsl hok ih hw
  go_enter Tryd.func8, Tryd.ntmps8
  go_wp2
  go_loopw [3, 30] (fun so si wr => ∃ i : Nat, si = .int .i64 i ∧ i ≤ N ∧ Hid (BoxRow W2 wr so l i)) (fun _ si _ => N - (intOf si).toNat)
  case atStart => exact ⟨0, rfl, Nat.zero_le _, by rw [← HW2.out]; exact R0⟩
  case round =>
    obtain ⟨i, rfl, hi, hR⟩ := hrel
    by_cases hlt : i < N
    · have hil : i < l.length := by rw [← HN.out]; exact hlt
      have hb2 : Below W2.heap.size W2 wr := by obtain ⟨_, _, _, h⟩ := hR.out; exact h
      have hbw : Below w.heap.size w wr := HB0.out.trans (hb2.mono HB0.out.size)
      obtain h0 | ⟨b, o, rfl, hSb, hsl⟩ := HSL.out
      · rw [h0] at hil; simp at hil
      obtain ⟨v0, v1, v2, v3, q0, q1, q2, q3, hx⟩ := hsl.at_ i hil
      have hbl : b < w.heap.size := World.block_lt_of_cell? _ _ q0
      have c0 := (hbw.cell (p := ⟨b, o + i * 4, none⟩) hbl).trans q0
      have c1 := (hbw.cell (p := ⟨b, o + i * 4 + 1, none⟩) hbl).trans q1
      have c2 := (hbw.cell (p := ⟨b, o + i * 4 + 2, none⟩) hbl).trans q2
      have c3 := (hbw.cell (p := ⟨b, o + i * 4 + 3, none⟩) hbl).trans q3
      have HX := Lib.hid (hx.below (hbw.trans ((one_alloc wr (.cells #[v0, v1, v2, v3] 25)).2.mono hbw.size)))
      have HC := Lib.hid (HIH.out l[i] (List.getElem_mem hil) S _ _ HX.out (HOK.out _ (List.getElem_mem hil)) (HWI.out _ (List.getElem_mem hil)))
      have hx2 := hx
      generalize hli : l[i] = y at hx2
      obtain ⟨k', n', s', l'⟩ := y
      rw [Sits] at hx2
      obtain ⟨ao', c', hv, _⟩ := hx2
      simp only [Value.agg.injEq, Array.mk.injEq, List.cons.injEq, and_true] at hv
      obtain ⟨rfl, rfl, rfl, rfl⟩ := hv
      clear hli hx q0 q1 q2 q3 hsl hbl
      have hR2 := hR.out
      obtain ⟨xs, hown, hxs, hb2'⟩ := hR2
      have hWr : W2.heap.size ≤ wr.heap.size := hb2.size
      have HB2 := Lib.hid hb2
      have HXS := Lib.hid hxs
      have HOW := Lib.hid hown
      clear hb2 hbw hb2' hxs hown
      go_wp2_with fail
      refine HC.out.mono ?_
      rintro e w1 ⟨u, rfl, hu, hb1⟩
      have hbb : Below wr.heap.size wr w1 := (one_alloc wr _).2.trans (hb1.mono (by simp))
      have hu2 := hu.mono (T := fun k => wr.heap.size ≤ k ∧ k < w1.heap.size) (fun k hk => ⟨by have := hk.1; simp at this; omega, hk.2⟩)
      have ho1 := brow_keep HOW.out hbb
      have hform := hu.form
      have HU := Lib.hid hu2
      have HXS1 := Lib.hid (fun j (h : j < l.length) (h2 : j < xs.length) => BoxIs.keep (T := fun k => W2.heap.size ≤ k ∧ k < w1.heap.size ∧ u3.ownBlock ≠ some k) (fun k hk => ⟨⟨hk.1, Nat.lt_of_lt_of_le hk.2.1 hbb.size, hk.2.2⟩, fun hlt => hbb.block k hlt⟩) _ _ (HXS.out j h h2))
      have HBB := Lib.hid hbb
      have ho2 := ho1.alloc (.cells #[u] 29)
      have hc1 := cells1 w1 u 29
      have hW1 : W2.heap.size ≤ w1.heap.size := Nat.le_trans hWr hbb.size
      have HO1 := Lib.hid ho1
      clear hu hu2 hb1 hbb ho1 c0 c1 c2 c3 HXS
      have hone : ∀ x ∈ [u], x.oneCell' = true := by
        intro x hx
        rw [List.mem_singleton] at hx
        subst hx
        rcases hform with rfl | ⟨t, u', rfl⟩ <;> rfl
      go_wp2_with ((with_reducible show wpList _ _ _ (⟨some 38, _, _, _, _, _⟩ :: _) _ _); refine wpList_append_sep (o := ⟨some 38, _, _, _, _, _⟩) _ rfl _ _ 38 rfl W2.heap.size 29 i0 (.agg #[.nilIface]) 1 16 Tryd.underlying38 HI.out.1 HI.out.2.1 HI.out.2.2.1 HI.out.2.2.2 rfl (by decide) _ _ _ rfl ho2 ⟨w1.heap.size, 0, none⟩ 1 1 [u] rfl rfl hc1 hone (by unfold maxLen; omega) (by omega) (by simp; omega) ?_)
      intro v2 w2 hown hgrow hsep
      have H := Lib.hid (row_add hR.out hil HBB.out HU.out xs HO1.out HXS1.out hown hgrow hsep hWr)
      clear hown hgrow hsep ho2 hc1 hone
      go_wp2
      go_roundw
      case rel => exact ⟨i + 1, by go_num, by omega, H⟩
      case measure => simp [intOf]; omega
    · obtain rfl : i = N := by omega
      obtain ⟨xs, hown, hxs, hb2⟩ := hR.out
      obtain ⟨ao3, c3, rfl⟩ := brow_open hown
      have hlen : xs.length = i := by have := hown.1; omega
      have hrd : RdB (fun k => W2.heap.size ≤ k ∧ k < wr.heap.size) wr (.slice ao3 i c3) (cutL (bxIs l)) := by
        rw [cutL_bxIs]
        refine ⟨xs, rd_of_owns hown, by rw [List.length_map, hlen, HN.out], fun j h1 h2 => ?_⟩
        rw [List.getElem_map]
        exact (hxs j (by rw [← HN.out]; omega) h2).mono (fun k hk => ⟨hk.1, hk.2.1⟩)
      have HNL := Lib.hid (newlist_any _ _ _ wr hrd (maxD_cut _) (by rw [cutL_bxIs, List.length_map, ← HN.out]; omega))
      have HO1 := Lib.hid (HO.out.keep hb2)
      have HB2 := Lib.hid (HB0.out.trans (hb2.mono HB0.out.size))
      have hWr : w.heap.size + 2 ≤ wr.heap.size := by have := hb2.size; have := HSZ.out; omega
      clear hown hxs hb2 hrd hlen
      go_wp2_with fail
      refine HNL.out.mono ?_
      rintro e w1 ⟨v, rfl, hv, hb1⟩
      have o1 := HO1.out.keep hb1
      have c0 := o1.c
      have f0 := o1.f (i := 0)
      have z0 := (o1.set (u := v)).c
      have hb3 := (HB2.out.trans (hb1.mono HB2.out.size)).setCell (p := ⟨w.heap.size + 1, 0, none⟩) (by simp) v
      have hv3 : BoxIs (fun k => w.heap.size ≤ k ∧ k < w1.heap.size) (w1.setCell ⟨w.heap.size + 1, 0, none⟩ v) (cutB (bxI (.mk 4 m s l))) v := by
        rw [HR.out]
        refine BoxIs.keep (fun k hk => ?_) _ _ hv
        have h2 := HSZ.out
        have h3 := hb1.size
        have hk2 : w.heap.size + 2 ≤ k ∧ k < w1.heap.size := by
          rcases hk with h | h
          · omega
          · omega
        exact ⟨⟨by omega, hk2.2⟩, fun _ => Below.heap_setCell _ _ _ _ (by show k ≠ w.heap.size + 1; omega)⟩
      have HF := Lib.hid (show NewBox w (w1.setCell ⟨w.heap.size + 1, 0, none⟩ v) (.returned (.agg #[v])) (cutB (bxI (.mk 4 m s l))) from ⟨v, rfl, by simpa using hv3, hb3⟩)
      have hform := hv.form
      clear hv hb1 o1 hb3 hv3
      rcases hform with rfl | ⟨t, u, rfl⟩
      all_goals
        go_wp2
        refine bodyPost_ret (v := .agg #[_]) (by simp [results, Tryd.results8, go_sem, z0]) rfl HF.out

theorem law_any (x : Itm) : LawOk x := by
  induction x using Itm.ind with
  | h k n s l ih =>
    by_cases h : k = 4
    · subst h; exact law_list n s l ih
    · exact law_plain k n s l h
end Go.Proofs.YtbghemndcndhpaaDoor
