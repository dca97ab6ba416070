/- memory's words, cell.Of. Condition: an arena and threads that can be; at most 65536 words. -/
import Derived.Test.YtkdjcikilabehaaMemRow
import Derived.Test.YtkdjcikilabehaaHeldTill
import Derived.Deep.DeepCutAuto
import Derived.Deep.RegionWith
namespace Go.Proofs.Ytkdjcikilabehaa
open Go.RowKit

def wv (l : List Nat) : List Value := l.map fun (x : Nat) => Value.int .u64 (x : Nat)
theorem wv_len (l : List Nat) : (wv l).length = l.length := List.length_map _
theorem wv_set (l : List Nat) (i x : Nat) : (wv l).set i (.int .u64 (x : Nat)) = wv (l.set i x) := by unfold wv; rw [List.map_set]
theorem wv_rep (n : Nat) : wv (List.replicate n 0) = List.replicate n (.int .u64 0) := by unfold wv; rw [List.map_replicate]; rfl
theorem wv_get (l : List Nat) (i : Nat) (h : i < l.length) : (wv l)[i]? = some (.int .u64 (l.getD i 0 : Nat)) := by
  unfold wv
  rw [List.getElem?_map, List.getD_eq_getElem?_getD, List.getElem?_eq_getElem h]; rfl
/-- The words of which i uses stand. -/
def usesL (n A g : Nat) : Nat → List Nat
  | 0 => List.replicate n 0
  | i + 1 => (usesL n A g i).set (A + i) (useW 0 g)
theorem usesL_len (n A g : Nat) : ∀ i, (usesL n A g i).length = n
  | 0 => List.length_replicate
  | i + 1 => by
    show ((usesL n A g i).set _ _).length = n
    rw [List.length_set]; exact usesL_len n A g i
/-- What cells have at first. -/
def wordsL (A T g : Nat) : List Nat := ((usesL (begM A T 7) A g A).set A (useW 1 (g + 1))).set 0 (packW 0 (g + 1))
theorem wordsL_len (A T g : Nat) : (wordsL A T g).length = begM A T 7 := by
  unfold wordsL
  rw [List.length_set, List.length_set, usesL_len]
theorem beg7 {A T : Nat} (h : 1 ≤ A) : begM A T 7 = 2 * A + 5 * T + 1 := by
  simp only [begM, manyM]
  simp
  omega
theorem atM_use {A T : Nat} {i : Nat} (h : i < A) : atM A T 1 i = (A + i : Nat) := by
  unfold atM
  have e1 : manyM A T 1 = A := by unfold manyM; simp
  have e2 : begM A T 1 = A := by simp [begM, manyM]
  rw [e1, e2, if_pos (by omega)]
  omega
theorem atM_node0 {A T : Nat} (h : 1 ≤ A) : atM A T 0 0 = 0 := by
  unfold atM
  have e1 : manyM A T 0 = A := by unfold manyM; simp
  rw [e1, if_pos (by omega)]
  rfl
theorem infoU64 : (Try.prog.info? 22).map (fun i => (i.zero, i.size, i.bytes)) = some (some (.int .u64 0), 1, 8) := by kernel_rfl
/-- A row of words in new memory. -/
def NewW (w w' : World) (e : Ending) (l : List Nat) : Prop := ∃ g, e = .returned (.slice (some ⟨g, 0, none⟩) l.length l.length) ∧ Blk w' g 22 (wv l).toArray ∧ w.heap.size ≤ g ∧ Below w.heap.size w w'
theorem made_u64 (n : Nat) : madeCells (Value.int .u64 0).cells (n * 1) = (wv (List.replicate n 0)).toArray := by
  have e : (Value.int .u64 0).cells = #[.int .u64 0] := rfl
  rw [wv_rep, e]
  apply Array.ext
  · simp [madeCells]
  · intro i h1 h2
    simp [madeCells, Nat.mod_one]
set_option maxHeartbeats 4000000 in
set_option maxRecDepth 100000 in
theorem words_any (o A T g : Nat) (cp bs rs : Value) (hg : g < 4294967295) (h1 : 1 ≤ A) (w : World) (h : MBox w o A T cp bs rs) :
    Calls Try.prog 32 #[.pointer (some ⟨o, 0, none⟩), .int .u64 g] w fun e w' => NewW w w' e (wordsL A T g) := by
  have HM := Lib.hid h
  have HBG := Lib.hid (begin_any o A T 7 cp bs rs (by decide) w h)
  have hA := h.a
  have hT := h.t
  have c1 := h.c1
  obtain ⟨i0, hi, hz0, hz1, hz2⟩ := info_parts infoU64
  have hb7 := beg7 (T := T) h1
  have hmk := fun W => run_make_rowN (P := Try.prog) 30 22 i0 _ Try.underlying30 hi hz0 .i64 .i64 (begM A T 7) (begM A T 7) (Nat.le_refl _) (by rw [hz2]; omega) (by omega) W
  rw [hz1, made_u64] at hmk
  have HUW := Lib.hid (fun W => use_any 0 g (by decide) (by omega) W)
  have HUW1 := Lib.hid (fun W => use_any 1 (g + 1) (by decide) (by omega) W)
  have HPW := Lib.hid (fun W => pack_any 0 (g + 1) (by decide) (by omega) W)
  have HW1 : IntKind.u64.wrap ((g : Int) + 1) = ((g + 1 : Nat) : Int) := by rw [IntKind.wrap_u64]; omega
  have HWL := Lib.hid (show wordsL A T g = ((usesL (begM A T 7) A g A).set A (useW 1 (g + 1))).set 0 (packW 0 (g + 1)) from rfl)
  have HST := Lib.hid (fun i => show (usesL (begM A T 7) A g i).set (A + i) (useW 0 g) = usesL (begM A T 7) A g (i + 1) from rfl)
  have HLN := Lib.hid (fun i => usesL_len (begM A T 7) A g i)
  have HAT := Lib.hid (fun (W : World) (i : Int) (hm : MBox W o A T cp bs rs) => at_any o A T 1 i cp bs rs (by decide) W hm)
  have HAT0 := Lib.hid (fun (W : World) (i : Int) (hm : MBox W o A T cp bs rs) => at_any o A T 0 i cp bs rs (by decide) W hm)
  have HU0 : Hid (wv (List.replicate (begM A T 7) 0) = wv (usesL (begM A T 7) A g 0)) := Lib.hid rfl
  have HB7 := Lib.hid hb7
  have hnA : A + A < begM A T 7 := by omega
  have hn64 : begM A T 7 ≤ 65536 := by omega
  clear hb7
  generalize begM A T 7 = n at *
  generalize useW 0 g = u0 at *
  generalize useW 1 (g + 1) = u1 at *
  generalize packW 0 (g + 1) = p0 at *
  have HNB := Lib.hid (Blk.new w 22 (wv (List.replicate n 0)).toArray)
  rw [HU0.out] at HNB
  have HNA := Lib.hid (one_alloc w (.cells (wv (List.replicate n 0)).toArray 22)).2
  clear h hi hz0 hz1 hz2
  go_enter Try.func32, Try.ntmps32
  go_wp2_with fail
  refine HBG.out.mono ?_
  rintro e w1 ⟨rfl, hw1⟩
  subst hw1
  have c1' : (w1.alloc (.cells (wv (List.replicate n 0)).toArray 22)).cell? ⟨o, 1, none⟩ = some (.int .i64 A) := (HM.out.below HNA.out).c1
  clear c1
  go_wp2
  go_loopw [14] (fun s wr => ∃ i : Nat, s = .int .i64 i ∧ i ≤ A ∧ Hid (Blk wr w1.heap.size 22 (wv (usesL n A g i)).toArray) ∧ Hid (Below w1.heap.size w1 wr)) (fun s _ => A - (intOf s).toNat)
  case atStart => exact ⟨0, rfl, Nat.zero_le _, HNB, HNA⟩
  case round =>
    clear c1' HNB HNA hmk
    obtain ⟨i, rfl, hi, hbk, hbl⟩ := hrel
    by_cases hlt : i < A
    · have hlt' : (i : Int) < A := by omega
      have hat := HAT.out wr (i : Int) (HM.out.below hbl.out)
      rw [atM_use hlt] at hat
      have HC := Lib.hid hat
      clear hat
      have hx := wv_get (usesL n A g i) (A + i) (by rw [HLN.out]; omega)
      generalize (usesL n A g i).getD (A + i) 0 = x at *
      go_wp2_with fail
      refine HC.out.mono ?_
      rintro e w2 ⟨rfl, hw2⟩
      subst hw2
      go_wp2_with fail
      refine (HUW.out _).mono ?_
      rintro e w3 ⟨rfl, hb3⟩
      have hk3 := hbk.out.below hb3
      have f1 := hk3.frozen (A + i)
      have f2 : w3.cell? ⟨w1.heap.size, A + i, none⟩ = some (.int .u64 (x : Nat)) := (hk3.cell _).trans (by simpa using hx)
      have hset := hk3.set_ (A + i) (.int .u64 (u0 : Nat))
      rw [List.setIfInBounds_toArray, wv_set, HST.out] at hset
      have HSET := Lib.hid hset
      have HB2 := Lib.hid ((hbl.out.trans (hb3.mono hbl.out.size)).setCell (p := ⟨w1.heap.size, A + i, none⟩) (Nat.le_refl _) (.int .u64 (u0 : Nat)))
      have hz : A + i < n := by omega
      clear hk3 hset hb3
      go_wp2
      go_roundw
      case rel => exact ⟨i + 1, by go_num, by omega, HSET, HB2⟩
      case measure => simp [intOf]; omega
    · obtain rfl : i = A := by omega
      have hat := HAT.out wr (0 : Int) (HM.out.below hbl.out)
      have e0 := atM_use (A := i) (T := T) (i := 0) (by omega)
      rw [show ((0 : Nat) : Int) = 0 from rfl] at e0
      rw [e0, Nat.add_zero] at hat
      have HC := Lib.hid hat
      clear hat e0
      have hx := wv_get (usesL n i g i) i (by rw [HLN.out]; omega)
      generalize (usesL n i g i).getD i 0 = x at *
      go_wp2_with fail
      refine HC.out.mono ?_
      rintro e w2 ⟨rfl, hw2⟩
      subst hw2
      go_wp2_with fail
      refine (HUW1.out _).mono ?_
      rintro e w3 ⟨rfl, hb3⟩
      have hk3 := hbk.out.below hb3
      have f1 := hk3.frozen i
      have f2 : w3.cell? ⟨w1.heap.size, i, none⟩ = some (.int .u64 (x : Nat)) := (hk3.cell _).trans (by simpa using hx)
      have hset := hk3.set_ i (.int .u64 (u1 : Nat))
      rw [List.setIfInBounds_toArray, wv_set] at hset
      have hb4 := (hbl.out.trans (hb3.mono hbl.out.size)).setCell (p := ⟨w1.heap.size, i, none⟩) (Nat.le_refl _) (.int .u64 (u1 : Nat))
      obtain ⟨W4, hW4⟩ : ∃ W, W = w3.setCell ⟨w1.heap.size, i, none⟩ (.int .u64 (u1 : Nat)) := ⟨_, rfl⟩
      rw [← hW4] at hset hb4
      have HW4 := Lib.hid hW4
      have HSET := Lib.hid hset
      have HB4 := Lib.hid hb4
      have hat2 := HAT0.out W4 (0 : Int) (HM.out.below hb4)
      rw [atM_node0 h1] at hat2
      have HC2 := Lib.hid hat2
      clear hk3 hset hb3 hb4 hW4 hat2 hx
      go_upto_region 8 with fail
      rw [← HW4.out]
      clear HW4
      have HL2 : Hid (((usesL n i g i).set i u1).length = n) := Lib.hid (by rw [List.length_set]; exact HLN.out i)
      have hy := wv_get ((usesL n i g i).set i u1) 0 (by rw [HL2.out]; omega)
      generalize ((usesL n i g i).set i u1).getD 0 0 = y at *
      clear f1 f2
      go_wp2_with fail
      refine HC2.out.mono ?_
      rintro e w5 ⟨rfl, hw5⟩
      subst hw5
      go_wp2_with fail
      refine (HPW.out _).mono ?_
      rintro e w6 ⟨rfl, hb6⟩
      have hk6 := HSET.out.below hb6
      have f1 := hk6.frozen 0
      have f2 : w6.cell? ⟨w1.heap.size, 0, none⟩ = some (.int .u64 (y : Nat)) := (hk6.cell _).trans (by simpa using hy)
      have hset6 := hk6.set_ 0 (.int .u64 (p0 : Nat))
      rw [List.setIfInBounds_toArray, wv_set, ← HWL.out] at hset6
      have HSET6 := Lib.hid hset6
      have HB6 := Lib.hid ((HB4.out.trans (hb6.mono HB4.out.size)).setCell (p := ⟨w1.heap.size, 0, none⟩) (Nat.le_refl _) (.int .u64 (p0 : Nat)))
      have HLL : Hid ((wordsL i T g).length = n) := Lib.hid (by rw [HWL.out, List.length_set]; exact HL2.out)
      have hz : 0 < n := by omega
      clear hk6 hset6 hb6 hy
      go_wp2
      go_ret
      exact ⟨_, by rw [HLL.out]; rfl, HSET6.out, Nat.le_refl _, HB6.out⟩
/-- Cells of words. -/
def ofC (l : List Nat) : List (Nat × Nat) := l.map fun x => (x, 0)
def ofN (l : List Nat) (i : Nat) : List (Nat × Nat) := ofC (l.take i) ++ List.replicate (l.length - i) (0, 0)
theorem ofN_len (l : List Nat) (i : Nat) (h : i ≤ l.length) : (ofN l i).length = l.length := by
  unfold ofN ofC
  rw [List.length_append, List.length_map, List.length_take, List.length_replicate]; omega
theorem ofN_next (l : List Nat) (i : Nat) (h : i < l.length) : (ofN l i).set i (l.getD i 0, 0) = ofN l (i + 1) := by
  unfold ofN ofC
  have e : ((l.take i).map fun x => (x, 0)).length = i := by rw [List.length_map, List.length_take]; omega
  rw [List.set_append_right _ _ (by rw [e]; exact Nat.le_refl _), e, Nat.sub_self, show l.length - i = (l.length - (i + 1)) + 1 by omega, List.replicate_succ, List.set_cons_zero, List.take_succ_eq_append_getElem h, List.map_append, List.append_assoc, List.getD_eq_getElem?_getD, List.getElem?_eq_getElem h]
  rfl
theorem ofN_vr (l : List Nat) (i : Nat) (h : i < l.length) : wd (ofN l i) i = 0 ∧ vr (ofN l i) i = 0 := by
  unfold wd vr ofN ofC
  have e : ((l.take i).map fun x => (x, 0)).length = i := by rw [List.length_map, List.length_take]; omega
  rw [List.getD_eq_getElem?_getD, List.getElem?_append_right (by rw [e]; exact Nat.le_refl _), e, Nat.sub_self, show l.length - i = (l.length - (i + 1)) + 1 by omega, List.replicate_succ]
  exact ⟨rfl, rfl⟩
theorem setCell_idem {w : World} {g i : Nat} {t : TypeId} {cs : Array Value} {v : Value} (h : Blk w g t cs) (hv : cs[i]? = some v) : w.setCell ⟨g, i, none⟩ v = w := by
  have e : cs.setIfInBounds i v = cs := by
    obtain ⟨hi, he⟩ := Array.getElem?_eq_some_iff.1 hv
    apply Array.ext_getElem?
    intro j
    rw [Array.getElem?_setIfInBounds]
    by_cases hij : i = j
    · subst hij
      simp [hi, he]
    · simp [hij]
  have h2 : (w.setCell ⟨g, i, none⟩ v).heap = w.heap := by
    apply Array.ext_getElem?
    intro j
    by_cases hj : j = g
    · subst hj
      rw [heap_setCell_same w j i cs t v h, e]
      exact h.symm
    · exact Below.heap_setCell _ _ _ _ hj
  show ({ w with heap := (w.setCell ⟨g, i, none⟩ v).heap } : World) = w
  rw [h2]
theorem cells_word {w : World} {b g : Nat} {l : List (Nat × Nat)} (h : CellsAt w b g l) (j a v : Nat) (ha : a < 18446744073709551616) (hv : vr l j = v) (hj : j < l.length) : CellsAt (w.setCell ⟨g, j * 2, none⟩ (.int .u64 a)) b g (l.set j (a, v)) := by
  have hvl : v < 18446744073709551616 := by
    have := (h.fit _ (List.getElem_mem hj)).2
    rw [wd_eq hj] at this
    rw [← hv]; exact this
  have h2 := h.set j a v ha hvl
  have e : (w.setCell ⟨g, j * 2, none⟩ (.int .u64 a)).setCell ⟨g, j * 2 + 1, none⟩ (.int .u64 (v : Nat)) = w.setCell ⟨g, j * 2, none⟩ (.int .u64 a) := by
    have hc := h.ver j hj
    rw [hv] at hc
    have hr := h.row.set_ (j * 2) (.int .u64 (a : Nat))
    have hc2 : (w.setCell ⟨g, j * 2, none⟩ (.int .u64 a)).cell? ⟨g, j * 2 + 1, none⟩ = some (.int .u64 (v : Nat)) := by
      rw [hr.cell, Array.getElem?_setIfInBounds_ne (by omega), ← h.row.cell]; exact hc
    exact setCell_idem hr (by rw [← hr.cell]; exact hc2)
  rw [e] at h2
  exact h2
set_option maxHeartbeats 4000000 in
set_option maxRecDepth 100000 in
theorem of_any (gw c : Nat) (l : List Nat) (hn : l.length ≤ 65536) (hl : ∀ x ∈ l, x < 18446744073709551616) (w : World) (h : Blk w gw 22 (wv l).toArray) :
    Calls Try.prog 31 #[.slice (some ⟨gw, 0, none⟩) l.length c] w fun e w' => NewAt w w' e (ofC l) := by
  have HN := Lib.hid (new_in l.length w hn)
  have HG := Lib.hid h
  have HGET := Lib.hid (fun i hi => wv_get l i hi)
  have HLT : Hid (∀ i, i < l.length → l.getD i 0 < 18446744073709551616) := Lib.hid (fun i hi => by
    rw [List.getD_eq_getElem?_getD, List.getElem?_eq_getElem hi]
    exact hl _ (List.getElem_mem hi))
  have HST := Lib.hid (fun i hi => ofN_next l i hi)
  have HVR := Lib.hid (fun i hi => ofN_vr l i hi)
  have HLN := Lib.hid (fun i hi => ofN_len l i hi)
  have HE : Hid (ofN l l.length = ofC l) := Lib.hid (by unfold ofN; rw [List.take_length, Nat.sub_self]; simp)
  have HS : Hid (List.replicate l.length (0, 0) = ofN l 0) := Lib.hid (by unfold ofN ofC; simp)
  clear h hl
  generalize hnn : l.length = n at *
  have HNN := Lib.hid hnn
  clear hnn
  go_enter Try.func31, Try.ntmps31
  go_wp2_with fail
  refine HN.out.mono ?_
  rintro e w1 ⟨b, g, rfl, hc, hb1, hg1, hbl⟩
  rw [HS.out] at hc
  have HC := Lib.hid hc
  have HB := Lib.hid hbl
  have HLE := Lib.hid (And.intro hb1 hg1)
  have hcl := cLen_any b g (ofN l 0) w1 hc
  rw [HLN.out 0 (Nat.zero_le _)] at hcl
  have HCL := Lib.hid hcl
  clear hc hb1 hg1 hbl hcl
  go_wp2_with fail
  refine HCL.out.mono ?_
  rintro e w2 ⟨rfl, hw2⟩
  subst hw2
  go_wp2
  go_loopw [10] (fun s wr => ∃ i : Nat, s = .int .i64 i ∧ i ≤ n ∧ Hid (CellsAt wr b g (ofN l i)) ∧ Hid (Below w.heap.size w wr)) (fun s _ => n - (intOf s).toNat)
  case atStart => exact ⟨0, rfl, Nat.zero_le _, HC, HB⟩
  case round =>
    obtain ⟨i, rfl, hi, hca, hbl⟩ := hrel
    by_cases hlt : i < n
    · have hlt' : (i : Int) < n := by omega
      have c0 := hca.out.c0
      rw [HLN.out i hi] at c0
      have cw := hca.out.word i (by rw [HLN.out i hi]; exact hlt)
      rw [(HVR.out i hlt).1] at cw
      have f1 := hca.out.row.frozen (i * 2)
      have hx := HGET.out i hlt
      have hx2 := HLT.out i hlt
      have hcw := cells_word hca.out i (l.getD i 0) 0 hx2 (HVR.out i hlt).2 (by rw [HLN.out i hi]; exact hlt)
      rw [HST.out i hlt] at hcw
      generalize l.getD i 0 = x at *
      have hsrc := HG.out.below hbl.out
      have cs : wr.cell? ⟨gw, i, none⟩ = some (.int .u64 (x : Nat)) := (hsrc.cell _).trans (by simpa using hx)
      have HCW := Lib.hid hcw
      have HB2 := Lib.hid (hbl.out.setCell (p := ⟨g, i * 2, none⟩) HLE.out.2 (.int .u64 (x : Nat)))
      have HS0 := Lib.hid (show wr.drew.cell? ⟨b, 0, none⟩ = some (.slice (some ⟨g, 0, none⟩) n n) ∧ wr.drew.cell? ⟨gw, i, none⟩ = some (.int .u64 (x : Nat)) from ⟨c0, cs⟩)
      clear hcw hsrc hx
      go_upto_region 5 with fail
      refine wp_region_till (fun V => V.cell? ⟨b, 0, none⟩ = some (.slice (some ⟨g, 0, none⟩) n n) ∧ V.cell? ⟨gw, i, none⟩ = some (.int .u64 (x : Nat))) 11 (by rfl) ?_
      refine wpAnyS_take 0 (some 13) [11] rfl rfl (by kernel_rfl) (by kernel_rfl) (by kernel_rfl) (by kernel_rfl) (by kernel_rfl) (by kernel_rfl) (by kernel_rfl) (fun _ _ _ h => h) (by rfl) (by intro V hV9; obtain ⟨y1, y2⟩ := hV9; go_simp; (first | done | (with_reducible rfl))) HS0.out ?_
      simp only [Act.put, List.setIfInBounds_toArray, List.set_cons_zero, List.set_cons_succ]
      refine wpAnyS_take 1 (some 14) [11] rfl rfl (by kernel_rfl) (by kernel_rfl) (by kernel_rfl) (by kernel_rfl) (by kernel_rfl) (by kernel_rfl) (by kernel_rfl) (fun _ _ _ h => h) (by rfl) (by intro V hV9; obtain ⟨y1, y2⟩ := hV9; go_simp; (first | done | (with_reducible rfl))) HS0.out ?_
      simp only [Act.put, List.setIfInBounds_toArray, List.set_cons_zero, List.set_cons_succ]
      refine wpAnyS_take 2 (some 15) [11] rfl rfl (by kernel_rfl) (by kernel_rfl) (by kernel_rfl) (by kernel_rfl) (by kernel_rfl) (by kernel_rfl) (by kernel_rfl) (fun _ _ _ h => h) (by rfl) (by intro V hV9; obtain ⟨y1, y2⟩ := hV9; go_simp; (first | done | (with_reducible rfl))) HS0.out ?_
      simp only [Act.put, List.setIfInBounds_toArray, List.set_cons_zero, List.set_cons_succ]
      refine wpAnyS_take 3 (some 16) [11] rfl rfl (by kernel_rfl) (by kernel_rfl) (by kernel_rfl) (by kernel_rfl) (by kernel_rfl) (by kernel_rfl) (by kernel_rfl) (fun _ _ _ h => h) (by rfl) (by intro V hV9; obtain ⟨y1, y2⟩ := hV9; go_simp; (first | done | (with_reducible rfl))) HS0.out ?_
      simp only [Act.put, List.setIfInBounds_toArray, List.set_cons_zero, List.set_cons_succ]
      refine wpAnyS_take 4 (some 17) [11] rfl rfl (by kernel_rfl) (by kernel_rfl) (by kernel_rfl) (by kernel_rfl) (by kernel_rfl) (by kernel_rfl) (by kernel_rfl) (fun _ _ _ h => h) (by rfl) (by intro V hV9; obtain ⟨y1, y2⟩ := hV9; go_simp; (first | done | (with_reducible rfl))) HS0.out ?_
      simp only [Act.put, List.setIfInBounds_toArray, List.set_cons_zero, List.set_cons_succ]
      refine wpAnyS_take 5 (some 18) [11] rfl rfl (by kernel_rfl) (by kernel_rfl) (by kernel_rfl) (by kernel_rfl) (by kernel_rfl) (by kernel_rfl) (by kernel_rfl) (fun _ _ _ h => h) (by rfl) (by intro V hV9; obtain ⟨y1, y2⟩ := hV9; go_simp; (first | done | (with_reducible rfl))) HS0.out ?_
      simp only [Act.put, List.setIfInBounds_toArray, List.set_cons_zero, List.set_cons_succ]
      refine wpAnyS_take 6 (some 19) [11] rfl rfl (by kernel_rfl) (by kernel_rfl) (by kernel_rfl) (by kernel_rfl) (by kernel_rfl) (by kernel_rfl) (by kernel_rfl) (fun _ _ _ h => h) (by rfl) (by intro V hV9; obtain ⟨y1, y2⟩ := hV9; go_simp; (first | done | (with_reducible rfl))) HS0.out ?_
      simp only [Act.put, List.setIfInBounds_toArray, List.set_cons_zero, List.set_cons_succ]
      refine wpAnyS_take 7 (some 20) [11] rfl rfl (by kernel_rfl) (by kernel_rfl) (by kernel_rfl) (by kernel_rfl) (by kernel_rfl) (by kernel_rfl) (by kernel_rfl) (fun _ _ _ h => h) (by rfl) (by intro V hV9; obtain ⟨y1, y2⟩ := hV9; go_simp; (first | done | (with_reducible rfl))) HS0.out ?_
      simp only [Act.put, List.setIfInBounds_toArray, List.set_cons_zero, List.set_cons_succ]
      refine wpAnyS_take 8 (some 21) [11] rfl rfl (by kernel_rfl) (by kernel_rfl) (by kernel_rfl) (by kernel_rfl) (by kernel_rfl) (by kernel_rfl) (by kernel_rfl) (fun _ _ _ h => h) (by rfl) (by intro V hV9; obtain ⟨y1, y2⟩ := hV9; go_simp; (first | done | (with_reducible rfl))) HS0.out ?_
      simp only [Act.put, List.setIfInBounds_toArray, List.set_cons_zero, List.set_cons_succ]
      refine wpAnyS_take 9 (some 22) [10, 11] rfl rfl (by kernel_rfl) (by kernel_rfl) (by kernel_rfl) (by kernel_rfl) (by kernel_rfl) (by kernel_rfl) (by kernel_rfl) (fun _ _ _ h => h) (by rfl) (by intro V hV9; obtain ⟨y1, y2⟩ := hV9; go_simp; (first | done | (with_reducible rfl))) HS0.out ?_
      simp only [Act.put, List.setIfInBounds_toArray, List.set_cons_zero, List.set_cons_succ]
      refine wpAnyS_take 10 (some 23) [11] rfl rfl (by kernel_rfl) (by kernel_rfl) (by kernel_rfl) (by kernel_rfl) (by kernel_rfl) (by kernel_rfl) (by kernel_rfl) (fun _ _ _ h => h) (by rfl) (by intro V hV9; obtain ⟨y1, y2⟩ := hV9; go_simp; (first | done | (with_reducible rfl))) HS0.out ?_
      simp only [Act.put, List.setIfInBounds_toArray, List.set_cons_zero, List.set_cons_succ]
      refine wpAnyS_ready [11] (by kernel_rfl) (by simp) ?_
      refine AllReadyS.cons rfl (fun K9 hK => ?_) AllReadyS.nil
      go_simp
      refine hK.out _ _ (fun h => absurd h (by decide)) ?_
      clear hK K9
      refine wpAnyS_done (by kernel_rfl) ?_ _
      go_wp2
      go_roundw
      case rel => exact ⟨i + 1, by go_num, by omega, Lib.hid (HCW.out.drew ⟨1, rfl⟩), Lib.hid HB2.out.drew⟩
      case measure => simp [intOf]; omega
    · obtain rfl : i = n := by omega
      have HCF := Lib.hid (show CellsAt wr b g (ofC l) by rw [← HE.out]; exact hca.out)
      go_wp2
      go_ret
      exact ⟨_, _, rfl, HCF.out, HLE.out.1, HLE.out.2, hbl.out⟩
end Go.Proofs.Ytkdjcikilabehaa
