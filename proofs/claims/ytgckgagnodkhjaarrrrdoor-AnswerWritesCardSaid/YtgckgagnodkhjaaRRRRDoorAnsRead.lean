/- answer.Read: an answer is read and judged, by plain functions. Conditions: what has a fault has no bytes; the table of names. -/
import Derived.Test.YtgckgagnodkhjaaRRRRDoorAnsParse
import Derived.Test.YtgckgagnodkhjaaRRRRDoorAnsCheck
namespace Go.Proofs.YtgckgagnodkhjaaRRRRDoor
open Go.RowKit

theorem names_eye {w : World} {eb : Nat} {s : ES} (h : NamesAt17 w) (he : EyeS w eb s) : 0 ≠ eb := by
  obtain ⟨⟨v, h1, ao, c, rfl, _⟩, _⟩ := he
  intro e
  subst e
  have h2 := h.1.1
  have h3 := two_cell0 h1
  rw [h3] at h2
  cases h2
theorem NamesAt17.ew {w w' : World} {eb : Nat} (h : NamesAt17 w) (he : Ew eb w w') (hne : 0 ≠ eb) : NamesAt17 w' := by
  have e : ∀ i : Nat, w'.cell? ⟨0, i, none⟩ = w.cell? ⟨0, i, none⟩ := fun i => he.cell (p := ⟨0, i, none⟩) h.2 hne
  have hs := he.size
  obtain ⟨⟨h0, h1, h2, h3, h4, h5, h6⟩, hp⟩ := h
  exact ⟨⟨(e 0).trans h0, (e 1).trans h1, (e 2).trans h2, (e 3).trans h3, (e 4).trans h4, (e 5).trans h5, (e 6).trans h6⟩, by omega⟩

/-- While it is judged: the result's box, the answer's. -/
structure RB (w W : World) (eb A : Nat) (s : ES) (cs : Array Value) : Prop where
  eye : EyeS W eb s
  res : BX W w.heap.size 25 #[.int .i64 0, .string ⟨#[]⟩, .int .u64 0, .slice none 0 0]
  op : BX W A 25 cs
  ew : Ew eb w W
  ne : w.heap.size ≠ eb ∧ A ≠ eb ∧ A ≠ w.heap.size
theorem RB.step {w W W' : World} {eb A : Nat} {s s' : ES} {cs : Array Value} (h : RB w W eb A s cs) (hr : ReadS W W' eb s') : RB w W' eb A s' cs :=
  ⟨hr.1, readS_box hr h.ne.1 h.res, readS_box hr h.ne.2.1 h.op, h.ew.trans hr.2, h.ne⟩
theorem RB.under {w W W' : World} {eb A : Nat} {s : ES} {cs : Array Value} (h : RB w W eb A s cs) (hb : Below W.heap.size W W') : RB w W' eb A s cs :=
  ⟨h.eye.under hb, h.res.below hb, h.op.below hb, h.ew.trans (ew_of_below hb), h.ne⟩
theorem rb_end {w W : World} {eb A : Nat} {s : ES} {cs : Array Value} (h : RB w W eb A s cs) (k : Int) (t : ByteArray) (v : Int) (L : Value) : ReadS w ((((W.setCell ⟨w.heap.size, 0, none⟩ (.int .i64 k)).setCell ⟨w.heap.size, 1, none⟩ (.string t)).setCell ⟨w.heap.size, 2, none⟩ (.int .u64 v)).setCell ⟨w.heap.size, 3, none⟩ L) eb s := by
  have h1 := h.ne.1
  have n0 := noByte_ans 0 ⟨#[]⟩ 0 (.slice none 0 0) (fun x => by simp)
  have n1 := noByte_ans k ⟨#[]⟩ 0 (.slice none 0 0) (fun x => by simp)
  have n2 := noByte_ans k t 0 (.slice none 0 0) (fun x => by simp)
  have n3 := noByte_ans k t v (.slice none 0 0) (fun x => by simp)
  have b0 : BX W w.heap.size 25 #[.int .i64 0, .string ⟨#[]⟩, .int .u64 0, .slice none 0 0] := h.res
  have b1 : BX (W.setCell ⟨w.heap.size, 0, none⟩ (.int .i64 k)) w.heap.size 25 #[.int .i64 k, .string ⟨#[]⟩, .int .u64 0, .slice none 0 0] := heap_setCell_same W _ 0 _ _ _ b0
  have b2 : BX ((W.setCell ⟨w.heap.size, 0, none⟩ (.int .i64 k)).setCell ⟨w.heap.size, 1, none⟩ (.string t)) w.heap.size 25 #[.int .i64 k, .string t, .int .u64 0, .slice none 0 0] := heap_setCell_same _ _ 1 _ _ _ b1
  have b3 : BX (((W.setCell ⟨w.heap.size, 0, none⟩ (.int .i64 k)).setCell ⟨w.heap.size, 1, none⟩ (.string t)).setCell ⟨w.heap.size, 2, none⟩ (.int .u64 v)) w.heap.size 25 #[.int .i64 k, .string t, .int .u64 v, .slice none 0 0] := heap_setCell_same _ _ 2 _ _ _ b2
  exact ⟨(((h.eye.far b0 n0 h1 _ _).far b1 n1 h1 _ _).far b2 n2 h1 _ _).far b3 n3 h1 _ _, (((h.ew.far (Nat.le_refl _) _ _).far (Nat.le_refl _) _ _).far (Nat.le_refl _) _ _).far (Nat.le_refl _) _ _⟩

/-- An answer is read and judged. -/
def ansReadF (s : ES) : ((Nat × ByteArray × Nat × List (ByteArray × Int)) × Bool) × ES :=
  if (if ansSoundB (ansF s).1.1 (ansF s).1.2.1 (ansF s).1.2.2.2 = true then (ansF s).2 else (([], if (ansF s).2.2 = 0 then 10 else (ansF s).2.2) : ES)).2 = 0
  then (((ansF s).1, true), if ansSoundB (ansF s).1.1 (ansF s).1.2.1 (ansF s).1.2.2.2 = true then (ansF s).2 else ([], if (ansF s).2.2 = 0 then 10 else (ansF s).2.2))
  else (((0, ⟨#[]⟩, 0, []), false), if ansSoundB (ansF s).1.1 (ansF s).1.2.1 (ansF s).1.2.2.2 = true then (ansF s).2 else ([], if (ansF s).2.2 = 0 then 10 else (ansF s).2.2))
def ReadGives (w w' : World) (eb : Nat) (e : Ending) (r : ((Nat × ByteArray × Nat × List (ByteArray × Int)) × Bool) × ES) : Prop :=
  ∃ ao c, e = .returned (.tuple #[.agg #[.int .i64 (r.1.1.1 : Nat), .string r.1.1.2.1, .int .u64 (r.1.1.2.2.1 : Nat), .slice ao r.1.1.2.2.2.length c], .bool r.1.2]) ∧ RdP w' (.slice ao r.1.1.2.2.2.length c) r.1.1.2.2.2 ∧ ReadS w w' eb r.2
theorem rdp_none17 (w : World) : RdP w (.slice none 0 0) [] := ⟨none, 0, rfl, Nat.le_refl _, by omega, fun h => absurd h (by simp)⟩

set_option maxHeartbeats 8000000 in
set_option maxRecDepth 100000 in
theorem read17_any (eb : Nat) (s : ES) (w : World) (he : EyeS w eb s) (hnt : NamesAt17 w) :
    Calls Tryd.prog 17 #[.pointer (some ⟨eb, 0, none⟩)] w fun e w' => ReadGives w w' eb e (ansReadF s) := by
  obtain ⟨R, hR⟩ : ∃ R, R = ansReadF s := ⟨_, rfl⟩
  rw [← hR]
  unfold ansReadF at hR
  have n2 := BX.new w 25 #[.int .i64 0, .string ⟨#[]⟩, .int .u64 0, .slice none 0 0]
  have hx1 := boxed_below w (.cells #[.int .i64 0, .string ⟨#[]⟩, .int .u64 0, .slice none 0 0] 25)
  obtain ⟨W1, hW1⟩ : ∃ W, W = w.alloc (.cells #[.int .i64 0, .string ⟨#[]⟩, .int .u64 0, .slice none 0 0] 25) := ⟨_, rfl⟩
  have hs1 : W1.heap.size = w.heap.size + 1 := by rw [hW1, World.size_alloc]
  rw [← hW1] at n2 hx1
  have HPS := Lib.hid (parse17_any eb s W1 (he.under hx1))
  have hlt := he.lt
  have HNE := Lib.hid (names_eye hnt he)
  have HNT := Lib.hid hnt
  rcases hP : ansF s with ⟨⟨k, t, v, ps⟩, s1⟩
  rw [hP] at hR HPS
  simp only at hR
  have HSD : Hid (ansSoundB (k : Int) t ps = ansSoundB (k : Int) t ps) := Lib.hid rfl
  obtain ⟨sd, hsd⟩ : ∃ sd, sd = ansSoundB (k : Int) t ps := ⟨_, rfl⟩
  rw [← hsd] at hR
  have HSE := Lib.hid hsd
  have HN2 := Lib.hid n2
  have HX1 := Lib.hid hx1
  have HW1 := Lib.hid hW1
  have HR := Lib.hid hR
  have HLT := Lib.hid (show eb < w.heap.size ∧ W1.heap.size = w.heap.size + 1 from ⟨hlt, hs1⟩)
  clear n2 hx1 hW1 hR hP he hnt hsd hlt hs1 HSD
  go_enter Tryd.func17, Tryd.ntmps17
  go_upto_region 1 with fail
  rw [← HW1.out]
  clear HW1
  go_wp2_with fail
  refine HPS.out.mono ?_
  rintro e w2 ⟨L, rfl, hfar, hr2⟩
  obtain ⟨ao, cL, hL⟩ := (hfar w2 (fun _ _ _ => rfl)).open
  subst hL
  have m3 := BX.new w2 25 #[.int .i64 (k : Nat), .string t, .int .u64 (v : Nat), .slice ao ps.length cL]
  have hx3 := boxed_below w2 (.cells #[.int .i64 (k : Nat), .string t, .int .u64 (v : Nat), .slice ao ps.length cL] 25)
  obtain ⟨W3, hW3⟩ : ∃ W, W = w2.alloc (.cells #[.int .i64 (k : Nat), .string t, .int .u64 (v : Nat), .slice ao ps.length cL] 25) := ⟨_, rfl⟩
  rw [← hW3] at m3 hx3
  have HA3 : Hid (RB w W3 eb w2.heap.size s1 #[.int .i64 (k : Nat), .string t, .int .u64 (v : Nat), .slice ao ps.length cL]) := Lib.hid (by
    have hlt2 := lt_of_block HN2.out
    have hlt := HLT.out.1
    have hs2 := hr2.2.size
    exact ⟨hr2.1.under hx3, BX.below (readS_box hr2 (by omega) HN2.out) hx3, m3, ((ew_of_below HX1.out).trans hr2.2).trans (ew_of_below hx3), by omega, by omega, by omega⟩)
  have HFAR : Hid (∀ W, (∀ g, w.heap.size < g → g < w2.heap.size → W.heap[g]? = W3.heap[g]?) → RdP W (.slice ao ps.length cL) ps) := Lib.hid (fun W h => hfar W (fun g h1 h2 => (h g (by have := HLT.out.2; omega) h2).trans (hx3.block g h2)))
  have HGE : Hid (w.heap.size < w2.heap.size ∧ w2.heap.size ≤ W3.heap.size) := Lib.hid ⟨by have := hr2.2.size; have := HLT.out.2; omega, hx3.size⟩
  have HW3 := Lib.hid hW3
  have HC := Lib.hid (ansCheck_any (k : Int) (v : Int) t ao ps.length cL ps W3 (HNT.out.ew HA3.out.ew HNE.out) (HFAR.out W3 (fun _ _ _ => rfl)))
  rw [← HSE.out] at HC
  clear m3 hx3 hr2 hfar hW3 HPS HN2 HX1 HSE
  go_upto_region 2 with fail
  rw [← HW3.out]
  clear HW3
  obtain ⟨g, hg⟩ : ∃ g, g = w2.heap.size := ⟨_, rfl⟩
  rw [← hg] at HA3 HFAR HGE ⊢
  clear hg
  have c0 : W3.cell? ⟨g, 0, none⟩ = some (.int .i64 (k : Nat)) := HA3.out.op.cell 0 rfl
  have c1 : W3.cell? ⟨g, 1, none⟩ = some (.string t) := HA3.out.op.cell 1 rfl
  have c2 : W3.cell? ⟨g, 2, none⟩ = some (.int .u64 (v : Nat)) := HA3.out.op.cell 2 rfl
  have c3 : W3.cell? ⟨g, 3, none⟩ = some (.slice ao ps.length cL) := HA3.out.op.cell 3 rfl
  cases sd with
  | false =>
    go_wp2_with fail
    refine HC.out.mono ?_
    rintro e w4 ⟨rfl, hb4⟩
    have HA4 := Lib.hid (HA3.out.under hb4)
    clear hb4 HC c0 c1 c2 c3
    have HTN := Lib.hid (eyeTextNeg eb s1 w4 HA4.out.eye)
    obtain ⟨q, hq⟩ : ∃ q : Int, q = if s1.2 = 0 then 10 else s1.2 := ⟨_, rfl⟩
    have hq0 : q ≠ 0 := by
      rw [hq]
      split
      · decide
      · assumption
    rw [← hq] at HTN
    have HRR : Hid (R = (((0, ⟨#[]⟩, 0, []), false), ([], q))) := Lib.hid (by rw [HR.out]; simp only [Bool.false_eq_true, if_false, ← hq, if_neg hq0])
    have hqb : (q == 0) = false := by rw [beq_eq_false_iff_ne]; exact hq0
    clear hq hq0 HR
    go_wp2_with fail
    refine HTN.out.mono ?_
    rintro e w5 ⟨rfl, hr5⟩
    have HA5 := Lib.hid (HA4.out.step hr5)
    clear hr5
    go_wp2_with fail
    refine (fault_any eb q [] w5 HA5.out.eye.1).mono ?_
    rintro e w6 ⟨rfl, h6⟩
    rw [← h6]
    clear h6
    have r0 : w5.cell? ⟨w.heap.size, 0, none⟩ = some (.int .i64 0) := HA5.out.res.cell 0 rfl
    have r1 : w5.cell? ⟨w.heap.size, 1, none⟩ = some (.string ⟨#[]⟩) := HA5.out.res.cell 1 rfl
    have r2 : w5.cell? ⟨w.heap.size, 2, none⟩ = some (.int .u64 0) := HA5.out.res.cell 2 rfl
    have r3 : w5.cell? ⟨w.heap.size, 3, none⟩ = some (.slice none 0 0) := HA5.out.res.cell 3 rfl
    have y0 := HA5.out.res.frozen 0
    have y1 := HA5.out.res.frozen 1
    have y2 := HA5.out.res.frozen 2
    have y3 := HA5.out.res.frozen 3
    go_wp2
    refine bodyPost_ret (v := .tuple #[.agg #[.int .i64 0, .string ⟨#[]⟩, .int .u64 0, .slice none 0 0], .bool false]) (by simp [results, Tryd.results17, go_sem, *]) rfl ?_
    rw [HRR.out]
    exact ⟨none, 0, rfl, rdp_none17 _, rb_end HA5.out _ _ _ _⟩
  | true =>
    go_wp2_with fail
    refine HC.out.mono ?_
    rintro e w4 ⟨rfl, hb4⟩
    have HA4 := Lib.hid (HA3.out.under hb4)
    have HF4 : Hid (∀ W, (∀ g, w.heap.size < g → g < W3.heap.size → W.heap[g]? = w4.heap[g]?) → RdP W (.slice ao ps.length cL) ps) := Lib.hid (fun W h => HFAR.out W (fun g2 h1 h2 => (h g2 h1 (by have := HGE.out.2; omega)).trans (hb4.block g2 (by have := HGE.out.2; omega))))
    clear hb4 HC c0 c1 c2 c3 HFAR
    obtain ⟨l1, f1⟩ := s1
    by_cases hf : f1 = 0
    · have HRR : Hid (R = (((k, t, v, ps), true), (l1, f1))) := Lib.hid (by rw [HR.out]; simp only [if_true, if_pos hf])
      subst hf
      clear HR
      go_wp2_with fail
      refine (fault_any eb 0 l1 w4 HA4.out.eye.1).mono ?_
      rintro e w6 ⟨rfl, h6⟩
      rw [← h6]
      clear h6
      have c0 : w4.cell? ⟨g, 0, none⟩ = some (.int .i64 (k : Nat)) := HA4.out.op.cell 0 rfl
      have c1 : w4.cell? ⟨g, 1, none⟩ = some (.string t) := HA4.out.op.cell 1 rfl
      have c2 : w4.cell? ⟨g, 2, none⟩ = some (.int .u64 (v : Nat)) := HA4.out.op.cell 2 rfl
      have c3 : w4.cell? ⟨g, 3, none⟩ = some (.slice ao ps.length cL) := HA4.out.op.cell 3 rfl
      have r0 : w4.cell? ⟨w.heap.size, 0, none⟩ = some (.int .i64 0) := HA4.out.res.cell 0 rfl
      have r1 : w4.cell? ⟨w.heap.size, 1, none⟩ = some (.string ⟨#[]⟩) := HA4.out.res.cell 1 rfl
      have r2 : w4.cell? ⟨w.heap.size, 2, none⟩ = some (.int .u64 0) := HA4.out.res.cell 2 rfl
      have r3 : w4.cell? ⟨w.heap.size, 3, none⟩ = some (.slice none 0 0) := HA4.out.res.cell 3 rfl
      have y0 := HA4.out.res.frozen 0
      have y1 := HA4.out.res.frozen 1
      have y2 := HA4.out.res.frozen 2
      have y3 := HA4.out.res.frozen 3
      have hne := HA4.out.ne.2.2
      have hne2 : w.heap.size ≠ g := fun e => hne e.symm
      go_wp2
      refine bodyPost_ret (v := .tuple #[.agg #[.int .i64 (k : Nat), .string t, .int .u64 (v : Nat), .slice ao ps.length cL], .bool true]) (by simp [results, Tryd.results17, go_sem, *]) rfl ?_
      rw [HRR.out]
      refine ⟨ao, cL, rfl, HF4.out _ (fun g2 h1 h2 => ?_), rb_end HA4.out _ _ _ _⟩
      have hgB : g2 ≠ w.heap.size := by omega
      exact (Below.heap_setCell _ _ _ _ hgB).trans ((Below.heap_setCell _ _ _ _ hgB).trans ((Below.heap_setCell _ _ _ _ hgB).trans (Below.heap_setCell _ _ _ _ hgB)))
    · have HRR : Hid (R = (((0, ⟨#[]⟩, 0, []), false), (l1, f1))) := Lib.hid (by rw [HR.out]; simp only [if_true, if_neg hf])
      have hqb : (f1 == 0) = false := by rw [beq_eq_false_iff_ne]; exact hf
      clear hf HR
      go_wp2_with fail
      refine (fault_any eb f1 l1 w4 HA4.out.eye.1).mono ?_
      rintro e w6 ⟨rfl, h6⟩
      rw [← h6]
      clear h6
      have r0 : w4.cell? ⟨w.heap.size, 0, none⟩ = some (.int .i64 0) := HA4.out.res.cell 0 rfl
      have r1 : w4.cell? ⟨w.heap.size, 1, none⟩ = some (.string ⟨#[]⟩) := HA4.out.res.cell 1 rfl
      have r2 : w4.cell? ⟨w.heap.size, 2, none⟩ = some (.int .u64 0) := HA4.out.res.cell 2 rfl
      have r3 : w4.cell? ⟨w.heap.size, 3, none⟩ = some (.slice none 0 0) := HA4.out.res.cell 3 rfl
      have y0 := HA4.out.res.frozen 0
      have y1 := HA4.out.res.frozen 1
      have y2 := HA4.out.res.frozen 2
      have y3 := HA4.out.res.frozen 3
      go_wp2
      refine bodyPost_ret (v := .tuple #[.agg #[.int .i64 0, .string ⟨#[]⟩, .int .u64 0, .slice none 0 0], .bool false]) (by simp [results, Tryd.results17, go_sem, *]) rfl ?_
      rw [HRR.out]
      exact ⟨none, 0, rfl, rdp_none17 _, rb_end HA4.out _ _ _ _⟩
end Go.Proofs.YtgckgagnodkhjaaRRRRDoor
