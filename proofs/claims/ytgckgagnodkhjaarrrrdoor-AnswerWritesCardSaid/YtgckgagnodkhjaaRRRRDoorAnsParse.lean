/- answer.parse: an answer is read, by plain functions. Condition: what has a fault has no bytes. -/
import Derived.Test.YtgckgagnodkhjaaRRRRDoorAnsSev
namespace Go.Proofs.YtgckgagnodkhjaaRRRRDoor
open Go.RowKit

theorem noByte_ans (k : Int) (t : ByteArray) (v : Int) (L : Value) (hL : ∀ x, L ≠ .int .u8 x) : NoByte #[.int .i64 k, .string t, .int .u64 v, L] := by
  intro i x
  match i with
  | 0 => simp
  | 1 => simp
  | 2 => simp
  | 3 => simpa using hL x
  | n + 4 => simp
/-- While an answer is read, ahead of the answer's box: the reader's box, the result's. -/
structure QA (w W : World) (eb : Nat) (s : ES) : Prop where
  eye : EyeS W eb s
  rd : BX W w.heap.size 60 #[.pointer (some ⟨eb, 0, none⟩)]
  zz : BX W (w.heap.size + 1) 25 #[.int .i64 0, .string ⟨#[]⟩, .int .u64 0, .slice none 0 0]
  ew : Ew eb w W
  lt : eb < w.heap.size
/-- .. and behind it. -/
structure PQ (w W : World) (eb A : Nat) (s : ES) (cs : Array Value) : Prop where
  q : QA w W eb s
  pa : BX W A 25 cs
  ge : w.heap.size + 1 < A
section
variable {w W W' : World} {eb A : Nat} {s s' : ES} {cs : Array Value}
theorem QA.read (h : QA w W eb s) (hr : ReadS W W' eb s') : QA w W' eb s' :=
  have h0 := h.lt
  ⟨hr.1, readS_box hr (by omega) h.rd, readS_box hr (by omega) h.zz, h.ew.trans hr.2, h.lt⟩
theorem QA.under (h : QA w W eb s) (hb : Below W.heap.size W W') : QA w W' eb s := ⟨h.eye.under hb, h.rd.below hb, h.zz.below hb, h.ew.trans (ew_of_below hb), h.lt⟩
theorem QA.drew (h : QA w W eb s) : QA w W.drew eb s := h.under (Below.refl _ _).drew
theorem PQ.read (h : PQ w W eb A s cs) (hr : ReadS W W' eb s') : PQ w W' eb A s' cs :=
  have h0 := h.q.lt
  have h1 := h.ge
  ⟨h.q.read hr, readS_box hr (by omega) h.pa, h.ge⟩
theorem PQ.under (h : PQ w W eb A s cs) (hb : Below W.heap.size W W') : PQ w W' eb A s cs := ⟨h.q.under hb, h.pa.below hb, h.ge⟩
theorem PQ.drew (h : PQ w W eb A s cs) : PQ w W.drew eb A s cs := h.under (Below.refl _ _).drew
theorem QA.new (h : QA w W eb s) (cs : Array Value) : PQ w (W.alloc (.cells cs 25)) eb W.heap.size s cs :=
  ⟨h.under (boxed_below W (.cells cs 25)), BX.new _ _ _, lt_of_block h.zz⟩
theorem PQ.ne0 (h : PQ w W eb A s cs) : A ≠ w.heap.size ∧ w.heap.size ≠ A := by have := h.ge; omega
theorem PQ.set (h : PQ w W eb A s cs) (hno : NoByte cs) (i : Nat) (u : Value) : PQ w (W.setCell ⟨A, i, none⟩ u) eb A s (cs.setIfInBounds i u) := by
  have h0 := h.ge
  have h1 := h.q.lt
  refine ⟨⟨h.q.eye.far h.pa hno (by omega) i u, ?_, ?_, h.q.ew.far (by omega) _ _, h.q.lt⟩, heap_setCell_same W A i _ _ u h.pa, h.ge⟩
  · exact (Below.heap_setCell _ _ _ _ (by show w.heap.size ≠ A; omega)).trans h.q.rd
  · exact (Below.heap_setCell _ _ _ _ (by show w.heap.size + 1 ≠ A; omega)).trans h.q.zz
theorem pq_set (k : Int) (t : ByteArray) (v : Int) (h : PQ w W eb A s #[.int .i64 0, .string ⟨#[]⟩, .int .u64 0, .slice none 0 0]) : PQ w ((((W.setCell ⟨A, 0, none⟩ (.int .i64 k)).setCell ⟨A, 1, none⟩ (.string t)).setCell ⟨A, 2, none⟩ (.int .u64 v)).setCell ⟨A, 3, none⟩ (.slice none 0 0)) eb A s #[.int .i64 k, .string t, .int .u64 v, .slice none 0 0] :=
  have n0 := noByte_ans 0 ⟨#[]⟩ 0 (.slice none 0 0) (fun x => by simp)
  have n1 := noByte_ans k ⟨#[]⟩ 0 (.slice none 0 0) (fun x => by simp)
  have n2 := noByte_ans k t 0 (.slice none 0 0) (fun x => by simp)
  have n3 := noByte_ans k t v (.slice none 0 0) (fun x => by simp)
  (((h.set n0 0 (.int .i64 k)).set n1 1 (.string t)).set n2 2 (.int .u64 v)).set n3 3 (.slice none 0 0)
end

theorem pq_end {w W : World} {eb A : Nat} {s : ES} {cs : Array Value} (h : PQ w W eb A s cs) (k : Int) (t : ByteArray) (v : Int) (L : Value) : ReadS w ((((W.setCell ⟨w.heap.size + 1, 0, none⟩ (.int .i64 k)).setCell ⟨w.heap.size + 1, 1, none⟩ (.string t)).setCell ⟨w.heap.size + 1, 2, none⟩ (.int .u64 v)).setCell ⟨w.heap.size + 1, 3, none⟩ L) eb s := by
  have h1 := h.q.lt
  have n0 := noByte_ans 0 ⟨#[]⟩ 0 (.slice none 0 0) (fun x => by simp)
  have n1 := noByte_ans k ⟨#[]⟩ 0 (.slice none 0 0) (fun x => by simp)
  have n2 := noByte_ans k t 0 (.slice none 0 0) (fun x => by simp)
  have n3 := noByte_ans k t v (.slice none 0 0) (fun x => by simp)
  have b0 : BX W (w.heap.size + 1) 25 #[.int .i64 0, .string ⟨#[]⟩, .int .u64 0, .slice none 0 0] := h.q.zz
  have b1 : BX (W.setCell ⟨w.heap.size + 1, 0, none⟩ (.int .i64 k)) (w.heap.size + 1) 25 #[.int .i64 k, .string ⟨#[]⟩, .int .u64 0, .slice none 0 0] := heap_setCell_same W _ 0 _ _ _ b0
  have b2 : BX ((W.setCell ⟨w.heap.size + 1, 0, none⟩ (.int .i64 k)).setCell ⟨w.heap.size + 1, 1, none⟩ (.string t)) (w.heap.size + 1) 25 #[.int .i64 k, .string t, .int .u64 0, .slice none 0 0] := heap_setCell_same _ _ 1 _ _ _ b1
  have b3 : BX (((W.setCell ⟨w.heap.size + 1, 0, none⟩ (.int .i64 k)).setCell ⟨w.heap.size + 1, 1, none⟩ (.string t)).setCell ⟨w.heap.size + 1, 2, none⟩ (.int .u64 v)) (w.heap.size + 1) 25 #[.int .i64 k, .string t, .int .u64 v, .slice none 0 0] := heap_setCell_same _ _ 2 _ _ _ b2
  exact ⟨(((h.q.eye.far b0 n0 (by omega) _ _).far b1 n1 (by omega) _ _).far b2 n2 (by omega) _ _).far b3 n3 (by omega) _ _, (((h.q.ew.far (by omega) _ _).far (by omega) _ _).far (by omega) _ _).far (by omega) _ _⟩
theorem SV.rdp {w W W' : World} {eb : Nat} {v : Value} {acc : List (ByteArray × Int)} {s : ES} (h : SV w W eb v acc s) (hs : ∀ g, w.heap.size ≤ g → g < W.heap.size → W'.heap[g]? = W.heap[g]?) : RdP W' v acc := by
  have h2 : OwnP W' w.heap.size v acc := own_same h.own (fun g hg => hs g (own_block_lt h.own hg).2 (own_block_lt h.own hg).1)
  exact h2.rd
theorem SV.readS {w W : World} {eb : Nat} {v : Value} {acc : List (ByteArray × Int)} {s : ES} (h : SV w W eb v acc s) : ReadS w W eb s := ⟨h.eye, h.ew⟩

/-- An answer is read: its code, its key, its value, its pairs; what is left, and the fault. -/
def ansF (s : ES) : (Nat × ByteArray × Nat × List (ByteArray × Int)) × ES :=
  ((((eN 6 s).1, (eT 64 (eN 6 s).2).1, (eN 18446744073709551615 (eT 64 (eN 6 s).2).2).1, (sevA (eN 4096 (eN 18446744073709551615 (eT 64 (eN 6 s).2).2).2).1 [] (eN 4096 (eN 18446744073709551615 (eT 64 (eN 6 s).2).2).2).2).1)), (sevA (eN 4096 (eN 18446744073709551615 (eT 64 (eN 6 s).2).2).2).1 [] (eN 4096 (eN 18446744073709551615 (eT 64 (eN 6 s).2).2).2).2).2)
def ParseGives (w w' : World) (eb : Nat) (e : Ending) (r : (Nat × ByteArray × Nat × List (ByteArray × Int)) × ES) : Prop :=
  ∃ L, e = .returned (.agg #[.int .i64 (r.1.1 : Nat), .string r.1.2.1, .int .u64 (r.1.2.2.1 : Nat), L]) ∧ (∀ W, (∀ g, w.heap.size ≤ g → g < w'.heap.size → W.heap[g]? = w'.heap[g]?) → RdP W L r.1.2.2.2) ∧ ReadS w w' eb r.2

set_option maxHeartbeats 6000000 in
set_option maxRecDepth 100000 in
theorem parse17_any (eb : Nat) (s : ES) (w : World) (he : EyeS w eb s) :
    Calls Tryd.prog 27 #[.agg #[.pointer (some ⟨eb, 0, none⟩)]] w fun e w' => ParseGives w w' eb e (ansF s) := by
  obtain ⟨R, hR⟩ : ∃ R, R = ansF s := ⟨_, rfl⟩
  rw [← hR]
  unfold ansF at hR
  have hN1 : ∀ W, EyeS W eb s → Calls Tryd.prog 34 #[.pointer (some ⟨eb, 0, none⟩), .int .u64 6] W fun e w' => e = .returned (.int .u64 ((eN 6 s).1 : Nat)) ∧ ReadS W w' eb (eN 6 s).2 := fun W h => eyeNumF eb 6 s W h
  have hk := eN_le 6 s
  rcases hQ : eN 6 s with ⟨k, s1⟩
  rw [hQ] at hN1 hk hR
  simp only at hN1 hk hR
  have hT := fun W (h : EyeS W eb s1) => eyeTextF eb 64 s1 W h (by omega)
  rcases hQ2 : eT 64 s1 with ⟨t, s2⟩
  rw [hQ2] at hT hR
  simp only at hT hR
  have hN3 : ∀ W, EyeS W eb s2 → Calls Tryd.prog 34 #[.pointer (some ⟨eb, 0, none⟩), .int .u64 18446744073709551615] W fun e w' => e = .returned (.int .u64 ((eN 18446744073709551615 s2).1 : Nat)) ∧ ReadS W w' eb (eN 18446744073709551615 s2).2 := fun W h => eyeNumF eb 18446744073709551615 s2 W h
  rcases hQ3 : eN 18446744073709551615 s2 with ⟨v, s3⟩
  rw [hQ3] at hN3 hR
  simp only at hN3 hR
  have hN4 : ∀ W, EyeS W eb s3 → Calls Tryd.prog 34 #[.pointer (some ⟨eb, 0, none⟩), .int .u64 4096] W fun e w' => e = .returned (.int .u64 ((eN 4096 s3).1 : Nat)) ∧ ReadS W w' eb (eN 4096 s3).2 := fun W h => eyeNumF eb 4096 s3 W h
  have hm := eN_le 4096 s3
  rcases hQ4 : eN 4096 s3 with ⟨m, s4⟩
  rw [hQ4] at hN4 hm hR
  simp only at hN4 hm hR
  have hS := fun W (h : EyeS W eb s4) => several_any eb m s4 W h hm
  rcases hQ5 : sevA m [] s4 with ⟨ps, s5⟩
  rw [hQ5] at hS hR
  simp only at hR
  have HRR := Lib.hid hR
  have HN1 := Lib.hid hN1
  have HT := Lib.hid hT
  have HN3 := Lib.hid hN3
  have HN4 := Lib.hid hN4
  have HS := Lib.hid hS
  obtain ⟨W2, hW2, b1, b2, hb2⟩ := bx2 w 60 25 #[.pointer (some ⟨eb, 0, none⟩)] #[.int .i64 0, .string ⟨#[]⟩, .int .u64 0, .slice none 0 0]
  have HW2 := Lib.hid hW2
  have hlt := he.lt
  have hr1 : w.heap.size ≠ eb := by omega
  have HQ0 : Hid (QA w W2 eb s) := Lib.hid ⟨he.under hb2, b1, b2, ew_of_below hb2, hlt⟩
  have c0 : W2.cell? ⟨w.heap.size, 0, none⟩ = some (.pointer (some ⟨eb, 0, none⟩)) := b1.cell 0 rfl
  have HKM := Lib.hid hm
  have hw17 : IntKind.i64.wrap (k : Int) = k := by rw [IntKind.wrap_i64]; omega
  clear hN1 hT hN3 hN4 hS hQ hQ2 hQ3 hQ4 hQ5 hW2 b1 b2 hb2 he hlt hR hm
  go_enter Tryd.func27, Tryd.ntmps27
  go_upto_region 1 with fail
  rw [← HW2.out]
  clear HW2
  go_cut [3] (fun sl wx => ∃ A, sl = .pointer (some ⟨A, 0, none⟩) ∧ Hid (PQ w wx eb A s3 #[.int .i64 (k : Nat), .string t, .int .u64 (v : Nat), .slice none 0 0]))
  case first =>
    clear HS HN4 HRR HKM
    go_region_held_law (fun V => V.cell? ⟨w.heap.size, 0, none⟩ = some (.pointer (some ⟨eb, 0, none⟩)))
      (first | (with_reducible assumption) | go_keep)
      (first
        | (go_at_call 34; (with_reducible refine (HN1.out _ ?_).mono ?_); (first | exact HQ0.out.eye | exact HQ0.out.drew.eye | exact (HQ0.out.new #[.int .i64 0, .string ⟨#[]⟩, .int .u64 0, .slice none 0 0]).drew.q.eye | exact (HQ0.out.drew.new #[.int .i64 0, .string ⟨#[]⟩, .int .u64 0, .slice none 0 0]).q.eye); rintro e wa ⟨rfl, hra⟩; have ca := held_cell hra hr1 (by first | (with_reducible assumption) | go_keep); (first | (have HPA := Lib.hid (PQ.read (HQ0.out.new #[.int .i64 0, .string ⟨#[]⟩, .int .u64 0, .slice none 0 0]).drew hra)) | (have HPA := Lib.hid (PQ.read (HQ0.out.drew.new #[.int .i64 0, .string ⟨#[]⟩, .int .u64 0, .slice none 0 0]) hra)) | skip); (first | (have HQA := Lib.hid (QA.read HQ0.out.drew hra)) | (have HQA := Lib.hid (HPA.out.q))); clear hra)
        | (go_at_call 28; refine (HT.out _ (by first | exact HQA.out.eye | exact (HQA.out.new #[.int .i64 0, .string ⟨#[]⟩, .int .u64 0, .slice none 0 0]).q.eye)).mono ?_; rintro e wb ⟨rfl, hrb⟩; have cb := held_cell hrb hr1 (by first | (with_reducible assumption) | go_keep); (first | (have HPB := Lib.hid (PQ.read HPA.out hrb)) | (have HPB := Lib.hid (PQ.read (HQA.out.new #[.int .i64 0, .string ⟨#[]⟩, .int .u64 0, .slice none 0 0]) hrb)) | skip); (first | (have HQB := Lib.hid (QA.read HQA.out hrb)) | (have HQB := Lib.hid (HPB.out.q))); clear hrb)
        | (go_at_call 34; (with_reducible refine (HN3.out _ ?_).mono ?_); (first | exact HQB.out.eye | exact (HQB.out.new #[.int .i64 0, .string ⟨#[]⟩, .int .u64 0, .slice none 0 0]).q.eye); rintro e wd ⟨rfl, hrd⟩; have cd := held_cell hrd hr1 (by first | (with_reducible assumption) | go_keep); (first | (have HPD := Lib.hid (PQ.read HPB.out hrd)) | (have HPD := Lib.hid (PQ.read (HQB.out.new #[.int .i64 0, .string ⟨#[]⟩, .int .u64 0, .slice none 0 0]) hrd)) | skip); (first | (have k0 := HPD.out.pa.cell 0 rfl; have k1 := HPD.out.pa.cell 1 rfl; have k2 := HPD.out.pa.cell 2 rfl; have k3 := HPD.out.pa.cell 3 rfl; have y0 := HPD.out.pa.frozen 0; have y1 := HPD.out.pa.frozen 1; have y2 := HPD.out.pa.frozen 2; have y3 := HPD.out.pa.frozen 3; have ne1 := HPD.out.ne0.1; have ne2 := HPD.out.ne0.2) | skip); (first | (have HQD := Lib.hid (QA.read HQB.out hrd)) | (have HQD := Lib.hid (HPD.out.q))); clear hrd))
    all_goals first | go_meet | (go_step; go_meet) | (go_wp2_with fail; go_meet)
    all_goals refine ⟨_, rfl, Lib.hid ?_⟩
    all_goals first | exact pq_set _ t _ HPD.out | exact (pq_set _ t _ HPD.out).drew | exact HQD.out.new _
  case rest =>
    obtain ⟨A, rfl, HPW⟩ := hcut
    have c1 : wc.cell? ⟨w.heap.size, 0, none⟩ = some (.pointer (some ⟨eb, 0, none⟩)) := HPW.out.q.rd.cell 0 rfl
    have ne1 := HPW.out.ne0.1
    have ne2 := HPW.out.ne0.2
    clear c0 HQ0 HN1 HT HN3
    go_upto_region 2 with fail
    go_region_held_law (fun V => V.cell? ⟨w.heap.size, 0, none⟩ = some (.pointer (some ⟨eb, 0, none⟩)))
      (first | (with_reducible assumption) | go_keep)
      (first
        | (go_at_call 34; (with_reducible refine (HN4.out _ ?_).mono ?_); (first | exact HPW.out.drew.q.eye | exact HPW.out.q.eye); rintro e wa ⟨rfl, hra⟩; have ca := held_cell hra hr1 (by first | (with_reducible assumption) | go_keep); have HPA := Lib.hid (PQ.read HPW.out.drew hra); clear hra)
        | (go_at_call 35; refine (HS.out _ HPA.out.q.eye).mono ?_; rintro e wb ⟨L, rfl, hsv⟩; obtain ⟨ao, cL, hL⟩ := hsv.own.rd.open; subst hL; have cb := held_cell hsv.readS hr1 ca; have HPB := Lib.hid (PQ.read HPA.out hsv.readS); have k3 := HPB.out.pa.cell 3 rfl; have y3 := HPB.out.pa.frozen 3; have HSV := Lib.hid hsv; clear hsv))
    all_goals go_upto_region 3 with fail
    all_goals
      have HPC := Lib.hid (HPB.out.set (noByte_ans (k : Nat) t (v : Nat) (.slice none 0 0) (fun x => by simp)) 3 (.slice ao ps.length cL))
      have HA2 : Hid (∀ g, wa.heap.size ≤ g → (wb.setCell ⟨A, 3, none⟩ (.slice ao ps.length cL)).heap[g]? = wb.heap[g]?) := Lib.hid (fun g hg => Below.heap_setCell _ _ _ _ (by have := lt_of_block HPA.out.pa; show g ≠ A; omega))
      have HGE := Lib.hid (show w.heap.size + 1 < A ∧ A < wa.heap.size from ⟨HPA.out.ge, lt_of_block HPA.out.pa⟩)
      have HSZ : Hid ((wb.setCell ⟨A, 3, none⟩ (.slice ao ps.length cL)).heap.size = wb.heap.size) := Lib.hid (by simp)
      clear k3 y3 ca cb c1 HS HN4 HPA HPB HPW ne1 ne2
      obtain ⟨W5, hW5⟩ : ∃ W, W = wb.setCell ⟨A, 3, none⟩ (.slice ao ps.length cL) := ⟨_, rfl⟩
      rw [← hW5] at HPC HA2 HSZ ⊢
      clear hW5
      have HPD : Hid (PQ w W5 eb A s5 #[.int .i64 (k : Nat), .string t, .int .u64 (v : Nat), .slice ao ps.length cL]) := HPC
      clear HPC
      have pa5 := HPD.out.pa
      have zz5 := HPD.out.q.zz
      have k0 : W5.cell? ⟨A, 0, none⟩ = some (.int .i64 (k : Nat)) := pa5.cell 0 rfl
      have k1 : W5.cell? ⟨A, 1, none⟩ = some (.string t) := pa5.cell 1 rfl
      have k2 : W5.cell? ⟨A, 2, none⟩ = some (.int .u64 (v : Nat)) := pa5.cell 2 rfl
      have k3 : W5.cell? ⟨A, 3, none⟩ = some (.slice ao ps.length cL) := pa5.cell 3 rfl
      have z0 : W5.cell? ⟨w.heap.size + 1, 0, none⟩ = some (.int .i64 0) := zz5.cell 0 rfl
      have z1 : W5.cell? ⟨w.heap.size + 1, 1, none⟩ = some (.string ⟨#[]⟩) := zz5.cell 1 rfl
      have z2 : W5.cell? ⟨w.heap.size + 1, 2, none⟩ = some (.int .u64 0) := zz5.cell 2 rfl
      have z3 : W5.cell? ⟨w.heap.size + 1, 3, none⟩ = some (.slice none 0 0) := zz5.cell 3 rfl
      have y0 := zz5.frozen 0
      have y1 := zz5.frozen 1
      have y2 := zz5.frozen 2
      have y3 := zz5.frozen 3
      have hA1 : A ≠ w.heap.size + 1 := by have := HGE.out; omega
      have hA3 : w.heap.size + 1 ≠ A := fun e => hA1 e.symm
      clear pa5 zz5
      go_wp2
      refine bodyPost_ret (v := .agg #[.int .i64 (k : Nat), .string t, .int .u64 (v : Nat), .slice ao ps.length cL]) (by simp [results, Tryd.results27, go_sem, *]) rfl ?_
      rw [HRR.out]
      refine ⟨_, rfl, fun W6 h6 => HSV.out.rdp (fun g hg hl => (h6 g (by have := HGE.out; omega) (by have := HSZ.out; simp; omega)).trans ?_), pq_end HPD.out _ _ _ _⟩
      have hgB : g ≠ w.heap.size + 1 := by have := HGE.out; omega
      exact (Below.heap_setCell _ _ _ _ hgB).trans ((Below.heap_setCell _ _ _ _ hgB).trans ((Below.heap_setCell _ _ _ _ hgB).trans ((Below.heap_setCell _ _ _ _ hgB).trans (HA2.out g hg))))
end Go.Proofs.YtgckgagnodkhjaaRRRRDoor
