/- bowerref17.Bytes: the document's bytes of an answer. Conditions: a value below 2^64, as in any answer. -/
import Derived.Test.YtgckgagnodkhjaaRRRRDoorAnsBack
import Derived.Test.YtgckgagnodkhjaaRRRRDoorSipRef
import Derived.Deep.RegionHeldLaw
namespace Go.Proofs.YtgckgagnodkhjaaRRRRDoor
open Go.RowKit

theorem own_keepO {w w' : World} {B n : Nat} {e : TypeId} {size : Nat} {v : Value} {xs : List Value} (h : w.ownsRow B e size v n xs) (hw : Below w.heap.size w w') : w'.ownsRow B e size v n xs :=
  own_same h (fun g hg => hw.block g (own_block_lt h hg).1)
theorem ownMonoO {w : World} {B D n : Nat} {e : TypeId} {size : Nat} {v : Value} {xs : List Value} (h : w.ownsRow B e size v n xs) (hd : D ≤ B) : w.ownsRow D e size v n xs := by
  refine ⟨h.1, ?_⟩
  rcases h.2 with hn | ⟨g, cap, cur, rfl, hb, r⟩
  · exact Or.inl hn
  · exact Or.inr ⟨g, cap, cur, rfl, by omega, r⟩
theorem gives_row {w w' : World} {e : Ending} {l : List UInt8} (h : Gives w w' e l) (hl : 0 < l.length) : ∃ (g c : Nat), e = .returned (.slice (some ⟨g, 0, none⟩) l.length c) ∧ (∀ j u, (Lib.byteCells l)[j]? = some u → w'.cell? ((⟨g, 0, none⟩ : Addr).add j) = some u) ∧ Below w.heap.size w w' := by
  obtain ⟨v, rfl, hown, hb⟩ := h
  rcases hown.2 with ⟨_, h⟩ | ⟨g, c, _, rfl, _⟩
  · omega
  · exact ⟨g, c, rfl, hown.cells (g := g) rfl, hb⟩
theorem uv0 : Lib.uvarint 0 = [0] := by unfold Lib.uvarint; rfl
/-- While the document's bytes are put together. -/
structure BAt (W1 wr : World) (v : Value) (bs : List UInt8) : Prop where
  own : wr.ownsRow W1.heap.size 5 1 v bs.length (Lib.byteCells bs)
  below : Below W1.heap.size W1 wr
theorem BAt.under {W1 w w' : World} {v : Value} {bs : List UInt8} (h : BAt W1 w v bs) (hb : Below w.heap.size w w') : BAt W1 w' v bs := ⟨own_keepO h.own hb, h.below.trans (hb.mono h.below.size)⟩
/-- A pair of a row, in whatever world behind. -/
theorem rdp_far {W1 : World} {ao : Option Addr} {n c : Nat} {ps : List (ByteArray × Int)} (h : RdP W1 (.slice ao n c) ps) (i : Nat) (hi : i < n) : ∃ g o, ao = some ⟨g, o, none⟩ ∧ ∀ W, Below W1.heap.size W1 W → W.cell? ⟨g, o + i * 2, none⟩ = some (.string (ntp ps i).1) ∧ W.cell? ⟨g, o + i * 2 + 1, none⟩ = some (.int .u64 (ntp ps i).2) := by
  obtain ⟨g, o, rfl, hcs⟩ := h.at_ i hi
  have h1 := (hcs i hi).1
  have h2 := (hcs i hi).2
  refine ⟨g, o, rfl, fun W hb => ?_⟩
  have hlt : g < W1.heap.size := World.block_lt_of_cell? W1 _ h1
  exact ⟨(hb.cell (p := ⟨g, o + i * 2, none⟩) hlt).trans h1, (hb.cell (p := ⟨g, o + i * 2 + 1, none⟩) hlt).trans h2⟩

/-- append as a step of a region, onto a row of the call's own. -/
theorem step_append17 {P : Program} {ops : Array Oper} {o : Oper} {a : Act} {w : World} {K : Act → World → Prop} {Q : Exit → Act → World → Prop} {E : Prop}
    (hg : o.guard = none) (s x : Operand) (t : TypeId) (hop : o.op = Op.call { callee := Callee.builtin Builtin.append, args := #[s, x], argTypes := #[t, t] })
    (base : Nat) (e : TypeId) (i : TypeInfo) (z : Value) (size bytes : Nat) (h1 : P.underlying t = some (.slice e)) (h2 : P.info? e = some i) (h3 : i.zero = some z) (h4 : i.size = size) (h5 : i.bytes = bytes) (h6 : z.cells.size = size) (h7 : 0 < size)
    (v : Value) (n : Nat) (xs : List Value) (hs : a.eval s = v) (hown : w.ownsRow base e size v n xs)
    (ad : Addr) (m c : Nat) (news : List Value) (hx : a.eval x = .slice (some ad) m c) (hn : news.length = m * size) (hc : ∀ j u, news[j]? = some u → w.cell? (ad.add j) = some u) (h1c : ∀ u ∈ news, u.oneCell' = true)
    (b1 : n + m ≤ maxLen) (b2 : (n + m) * bytes ≤ 140737488355328) (hbase : base ≤ w.heap.size)
    (hK : ∀ v' w', w'.ownsRow base e size v' (n + m) (xs ++ news) → w.grownBy w' v.ownBlock → K (a.put o.dst v') w') :
    if Region.wanted o (yielded ops a.tmps) = true then Oper.wp P o a w K Q else E := by
  have hw : Region.wanted o (yielded ops a.tmps) = true := by simp [Region.wanted, hg]
  rw [if_pos hw]
  obtain ⟨v', w', hrun, r1, r2, _⟩ := run_append_own (P := P) (w := w) base t o.type e i z size bytes h1 h2 h3 h4 h5 h6 h7 v n xs hown ad m c news hn hc h1c b1 b2 hbase
  unfold Oper.wp
  simp [execOp, hop, resolve, invoke, builtin, hs, hx, hrun, Result.andThen]
  exact hK v' w' r1 r2
theorem ones17 (l : List UInt8) : ∀ u ∈ Lib.byteCells l, u.oneCell' = true := by
  intro u hu
  simp [Lib.byteCells] at hu
  obtain ⟨a, _, rfl⟩ := hu
  rfl
theorem txtL_len (s : ByteArray) (h : s.size ≤ 64) : 0 < (txtL s).length ∧ (txtL s).length ≤ 74 := by
  have u1 := Lib.uvarint_length64 (x := s.size) (by omega)
  have u2 := Lib.uvarint_pos s.size
  unfold txtL
  rw [List.length_append, size_list]
  omega
theorem BAt.grown {W1 w w' : World} {v v' : Value} {bs pp : List UInt8} (h : BAt W1 w v bs) (ho : w'.ownsRow W1.heap.size 5 1 v' (bs.length + pp.length) (Lib.byteCells bs ++ Lib.byteCells pp)) (hg : w.grownBy w' v.ownBlock) : BAt W1 w' v' (bs ++ pp) :=
  ⟨by rw [List.length_append, Lib.byteCells_append]; exact ho, h.below.grown hg h.below.size (fun k hk => (h.own.lt k hk).1)⟩

set_option maxHeartbeats 8000000 in
set_option maxRecDepth 100000 in
theorem rbytes17_any (k : Int) (key : ByteArray) (v : Nat) (ao : Option Addr) (c : Nat) (ps : List (ByteArray × Int)) (w : World) (hr : RdP w (.slice ao ps.length c) ps) (hv : v < 18446744073709551616) (hz : ∀ i, i < ps.length → 0 ≤ (ntp ps i).2 ∧ (ntp ps i).2 < 18446744073709551616) :
    Calls Tryd.prog 18 #[.agg #[.int .i64 k, .string key, .int .u64 (v : Nat), .slice ao ps.length c]] w fun e w' => Gives w w' e (ansBytes k key v ps) := by
  have hn := hr.len
  have n0 := BX.new w 25 #[.int .i64 k, .string key, .int .u64 (v : Nat), .slice ao ps.length c]
  have hx := boxed_below w (.cells #[.int .i64 k, .string key, .int .u64 (v : Nat), .slice ao ps.length c] 25)
  obtain ⟨W1, hW1⟩ : ∃ W, W = w.alloc (.cells #[.int .i64 k, .string key, .int .u64 (v : Nat), .slice ao ps.length c] 25) := ⟨_, rfl⟩
  rw [← hW1] at n0 hx
  have HC := Lib.hid (ransSound_any k (v : Nat) key ao ps.length c ps W1 (hr.keep hx))
  obtain ⟨R, hR⟩ : ∃ R, R = ansBytes k key v ps := ⟨_, rfl⟩
  rw [← hR]
  unfold ansBytes at hR
  have HPA := Lib.hid (sound_parts17 (k := k) (key := key) (ps := ps))
  have HR := Lib.hid hR
  generalize ansSoundB k key ps = sd at *
  have HN := Lib.hid n0
  have HX := Lib.hid hx
  have HRD := Lib.hid (hr.keep hx)
  have HZ := Lib.hid hz
  have HNL := Lib.hid hn
  have HW := Lib.hid hW1
  have c0 : W1.cell? ⟨w.heap.size, 0, none⟩ = some (.int .i64 k) := n0.cell 0 rfl
  have c1 : W1.cell? ⟨w.heap.size, 1, none⟩ = some (.string key) := n0.cell 1 rfl
  have c2 : W1.cell? ⟨w.heap.size, 2, none⟩ = some (.int .u64 (v : Nat)) := n0.cell 2 rfl
  have c3 : W1.cell? ⟨w.heap.size, 3, none⟩ = some (.slice ao ps.length c) := n0.cell 3 rfl
  obtain ⟨i0, hi, hz0, hz1, hz2⟩ := info_parts Tryd.info5
  have HI := Lib.hid (show _ ∧ _ ∧ _ ∧ _ from ⟨hi, hz0, hz1, hz2⟩)
  clear hi hz0 hz1 hz2 n0 hx hW1 hr hz hn hR
  go_enter Tryd.func18, Tryd.ntmps18
  go_upto_region 1 with fail
  rw [← HW.out]
  clear HW
  go_wp2_with fail
  refine HC.out.mono ?_
  rintro e w2 ⟨rfl, hb2⟩
  have HB2 := Lib.hid hb2
  clear c0 c1 c2 c3 HC hb2
  cases sd with
  | false =>
    have hR0 : R = Lib.uvarint 0 := by rw [HR.out]; rfl
    go_wp2
    go_ret
    rw [hR0]
    have hsz : w.heap.size ≤ w2.heap.size := Nat.le_trans HX.out.size HB2.out.size
    refine ⟨_, rfl, ⟨by simp [Lib.byteCells, uv0], .inr ⟨w2.heap.size, 1, #[.int .u8 0], by simp [uv0], hsz, heap_alloc_new w2 _, by simp [uv0], by unfold maxLen; omega, rfl, by simp [Lib.byteCells, uv0]⟩⟩, ?_⟩
    exact ((HX.out.trans (HB2.out.mono HX.out.size)).alloc hsz _)
  | true =>
  obtain ⟨⟨hk1, hk2⟩, hky, hpl, hps⟩ := HPA.out rfl
  have HN2 := Lib.hid (HN.out.below HB2.out)
  obtain ⟨m, rfl⟩ : ∃ m : Nat, k = m := ⟨k.toNat, by omega⟩
  have hwm : IntKind.u64.wrap (m : Int) = m := by rw [IntKind.wrap_u64]; omega
  have HM := Lib.hid (show m ≤ 6 ∧ key.size ≤ 64 from ⟨by omega, hky⟩)
  have c0 : w2.cell? ⟨w.heap.size, 0, none⟩ = some (.int .i64 (m : Nat)) := HN2.out.cell 0 rfl
  have c1 : w2.cell? ⟨w.heap.size, 1, none⟩ = some (.string key) := HN2.out.cell 1 rfl
  have HPL := Lib.hid hpl
  have HPS := Lib.hid hps
  clear hk1 hk2 hky hpl hps HPA
  go_upto_region 3 with fail
  go_cut [3] (fun s3 wx => ∃ a3 c3, s3 = .slice a3 (Lib.uvarint m ++ txtL key).length c3 ∧ Hid (BAt W1 wx (.slice a3 (Lib.uvarint m ++ txtL key).length c3) (Lib.uvarint m ++ txtL key)))
  case first =>
    clear HRD HZ HNL HPL HPS HR
    go_region_held_law (fun V => V.cell? ⟨w.heap.size, 0, none⟩ = some (.int .i64 (m : Nat)) ∧ V.cell? ⟨w.heap.size, 1, none⟩ = some (.string key))
      (first | (with_reducible assumption) | (refine ⟨?_, ?_⟩ <;> (with_reducible assumption)) | go_keep)
      (first
        | (go_at_call 30; refine (refNum_any m _ (by have := HM.out; omega)).mono ?_; rintro e wa ⟨va, rfl, howna, hba⟩; have HDA := Lib.hid ((Below.refl w2.heap.size w2).drew.trans hba); have HNA := Lib.hid (HN2.out.below HDA.out); have q0 : wa.cell? ⟨w.heap.size, 0, none⟩ = some (.int .i64 (m : Nat)) := HNA.out.cell 0 rfl; have q1 : wa.cell? ⟨w.heap.size, 1, none⟩ = some (.string key) := HNA.out.cell 1 rfl; have HAA : Hid (BAt W1 wa va (Lib.uvarint m)) := Lib.hid ⟨ownMonoO howna HB2.out.size, HB2.out.trans (HDA.out.mono HB2.out.size)⟩; obtain ⟨aa, ca, hva⟩ := own_slice howna; subst hva; clear howna hba HDA)
        | (go_at_call 31; refine (refText_any key _ (by have := HM.out; omega)).mono ?_; rintro e wb hg; obtain ⟨gt, ct, rfl, hct, hbt⟩ := gives_row (l := txtL key) hg (txtL_len key HM.out.2).1; have HCT := Lib.hid hct; have HAB := Lib.hid (HAA.out.under hbt); have HNB := Lib.hid (HNA.out.below hbt); have q2 : wb.cell? ⟨w.heap.size, 0, none⟩ = some (.int .i64 (m : Nat)) := HNB.out.cell 0 rfl; have q3 : wb.cell? ⟨w.heap.size, 1, none⟩ = some (.string key) := HNB.out.cell 1 rfl; clear hg hbt hct)
        | (refine step_append17 (o := ⟨some 16, _, _, _, _, _⟩) rfl (.tmp 12) (.tmp 15) 36 rfl W1.heap.size 5 i0 (.int .u8 0) 1 1 Tryd.underlying36 HI.out.1 HI.out.2.1 HI.out.2.2.1 HI.out.2.2.2 rfl (by decide) _ _ _ rfl HAB.out.own ⟨gt, 0, none⟩ (txtL key).length ct (Lib.byteCells (txtL key)) rfl (by rw [Lib.byteCells_length]; omega) HCT.out (ones17 _) (by unfold maxLen; have := (txtL_len key HM.out.2).2; have := Lib.uvarint_length64 (x := m) (by have := HM.out; omega); omega) (by have := (txtL_len key HM.out.2).2; have := Lib.uvarint_length64 (x := m) (by have := HM.out; omega); omega) HAB.out.below.size ?_; intro v9 w9 hown9 hgrow9; have HA9 := Lib.hid (HAB.out.grown hown9 hgrow9); have HN9 := Lib.hid (HN.out.below HA9.out.below); have q4 : w9.cell? ⟨w.heap.size, 0, none⟩ = some (.int .i64 (m : Nat)) := HN9.out.cell 0 rfl; have q5 : w9.cell? ⟨w.heap.size, 1, none⟩ = some (.string key) := HN9.out.cell 1 rfl; obtain ⟨a9, c9, hv9⟩ := own_slice hown9; subst hv9; clear hown9 hgrow9))
    all_goals first | go_meet | (go_step; go_meet) | (go_wp2_with fail; go_meet)
    all_goals exact ⟨_, _, by rw [List.length_append], by rw [List.length_append] at *; exact HA9⟩
  case rest =>
    obtain ⟨a3, c3, rfl, HB3⟩ := hcut
    have hlm := Lib.uvarint_length64 (x := m) (by have := HM.out; omega)
    have hlk := txtL_len key HM.out.2
    have hlv := Lib.uvarint_length64 hv
    have hvp := Lib.uvarint_pos v
    have hln := Lib.uvarint_length64 (x := ps.length) (by have := HPL.out; omega)
    have hnp := Lib.uvarint_pos ps.length
    have HLL := Lib.hid (show (Lib.uvarint m).length ≤ 10 ∧ (txtL key).length ≤ 74 ∧ (Lib.uvarint v).length ≤ 10 ∧ (Lib.uvarint ps.length).length ≤ 10 ∧ 0 < (Lib.uvarint v).length ∧ 0 < (Lib.uvarint ps.length).length from ⟨hlm, hlk.2, hlv, hln, hvp, hnp⟩)
    have HV := Lib.hid hv
    have hwn : IntKind.u64.wrap (ps.length : Int) = ps.length := by rw [IntKind.wrap_u64]; have := HPL.out; omega
    obtain ⟨b1, hb1⟩ : ∃ b1, b1 = Lib.uvarint m ++ txtL key := ⟨_, rfl⟩
    rw [← hb1] at HB3 ⊢
    have HBE : Hid (b1 = Lib.uvarint m ++ txtL key ∧ b1.length ≤ 84) := Lib.hid ⟨hb1, by rw [hb1, List.length_append]; have := hlk.2; omega⟩
    clear c0 c1 hwm hlm hlk hlv hvp hln hnp hv hb1
    have HN3 := Lib.hid (HN.out.below HB3.out.below)
    have c2 : wc.cell? ⟨w.heap.size, 2, none⟩ = some (.int .u64 (v : Nat)) := HN3.out.cell 2 rfl
    go_wp2_with fail
    refine (refNum_any v _ HV.out).mono ?_
    rintro e w4 hg
    obtain ⟨g4, d4, rfl, hct, hbt⟩ := gives_row (l := Lib.uvarint v) hg (HLL.out.2.2.2.2.1)
    have HU4 := Lib.hid (HB3.out.under hbt)
    have HCT4 := Lib.hid hct
    have HLE4 := Lib.hid (show (Lib.uvarint v).length ≤ 100 ∧ (b1).length ≤ 400000 from ⟨by have := HLL.out; omega, by have := HBE.out.2; omega⟩)
    clear hg hct hbt c2
    go_wp2_with ((with_reducible show wpList _ _ _ (⟨some 21, _, _, _, _, _⟩ :: _) _ _); refine wpList_append_own _ rfl (.tmp 17) (.tmp 20) 36 rfl W1.heap.size 5 i0 (.int .u8 0) 1 1 Tryd.underlying36 HI.out.1 HI.out.2.1 HI.out.2.2.1 HI.out.2.2.2 rfl (by decide) _ _ _ rfl HU4.out.own ⟨g4, 0, none⟩ (Lib.uvarint v).length d4 (Lib.byteCells (Lib.uvarint v)) rfl (by rw [Lib.byteCells_length]; omega) HCT4.out (ones17 _) (by unfold maxLen; have := HLE4.out; omega) (by have := HLE4.out; omega) HU4.out.below.size ?_; intro v5 w5 hown hgrow _; have HB5 := Lib.hid (HU4.out.grown hown hgrow); clear hown hgrow; have HN5 := Lib.hid (HN.out.below HB5.out.below); have f3 : w5.cell? ⟨w.heap.size, 3, none⟩ = some (.slice ao ps.length c) := HN5.out.cell 3 rfl)
    clear HU4 HCT4 HLE4
    refine (refNum_any ps.length _ (by have := HPL.out; omega)).mono ?_
    rintro e w6 hg
    obtain ⟨g6, d6, rfl, hct, hbt⟩ := gives_row (l := Lib.uvarint ps.length) hg (HLL.out.2.2.2.2.2)
    have HU6 := Lib.hid (HB5.out.under hbt)
    have HCT6 := Lib.hid hct
    have HLE6 := Lib.hid (show (Lib.uvarint ps.length).length ≤ 100 ∧ (b1 ++ Lib.uvarint v).length ≤ 400000 from ⟨by have := HLL.out; omega, by have := HLL.out; have := HBE.out.2; simp only [List.length_append]; omega⟩)
    clear hg hct hbt f3
    go_wp2_with ((with_reducible show wpList _ _ _ (⟨some 28, _, _, _, _, _⟩ :: _) _ _); refine wpList_append_own _ rfl (.tmp 22) (.tmp 27) 36 rfl W1.heap.size 5 i0 (.int .u8 0) 1 1 Tryd.underlying36 HI.out.1 HI.out.2.1 HI.out.2.2.1 HI.out.2.2.2 rfl (by decide) _ _ _ rfl HU6.out.own ⟨g6, 0, none⟩ (Lib.uvarint ps.length).length d6 (Lib.byteCells (Lib.uvarint ps.length)) rfl (by rw [Lib.byteCells_length]; omega) HCT6.out (ones17 _) (by unfold maxLen; have := HLE6.out; omega) (by have := HLE6.out; omega) HU6.out.below.size ?_; intro v7 w7 hown hgrow _; have HB7 := Lib.hid (HU6.out.grown hown hgrow); clear hown hgrow)
    clear HU6 HCT6 HLE6
    obtain ⟨hd, hhd⟩ : ∃ hd, hd = b1 ++ Lib.uvarint v ++ Lib.uvarint ps.length := ⟨_, rfl⟩
    rw [← hhd] at HB7
    have HHD : Hid (hd = Lib.uvarint m ++ txtL key ++ Lib.uvarint v ++ Lib.uvarint ps.length ∧ hd.length ≤ 104) := Lib.hid ⟨by rw [hhd, HBE.out.1], by rw [hhd]; have := HLL.out; have := HBE.out.2; simp only [List.length_append]; omega⟩
    have HPC := Lib.hid (pairs_len ps (fun i hi => ⟨HPS.out i hi, (HZ.out i hi).2⟩))
    clear hhd HLL HB3 HN3 HN5
    go_wp2
    go_loopw [3, 4] (fun vb vi wr => ∃ j : Nat, vi = .int .i64 j ∧ j ≤ ps.length ∧ Hid (BAt W1 wr vb (hd ++ (ps.take j).flatMap pairL))) (fun _ vi _ => ps.length - (intOf vi).toNat)
    case atStart => exact ⟨0, rfl, Nat.zero_le _, Lib.hid (by rw [List.take_zero, List.flatMap_nil, List.append_nil]; exact HB7.out)⟩
    case round =>
      obtain ⟨j, rfl, hj, HBR⟩ := hrel
      by_cases hlt : j < ps.length
      · obtain ⟨gp, op, hao, hcs⟩ := rdp_far HRD.out j hlt
        have HCS := Lib.hid hcs
        have HAO := Lib.hid hao
        have HJ := Lib.hid hlt
        have hji : (j : Int) < ps.length := by omega
        have HSN := Lib.hid (pairs_snoc ps j hlt)
        have hz := HZ.out j hlt
        have hs := HPS.out j hlt
        have HLB := Lib.hid (show (hd ++ (ps.take j).flatMap pairL).length ≤ 350000 from by have h1 := HPC.out j hj; have h2 := HHD.out.2; have h3 := HPL.out; rw [List.length_append]; omega)
        clear hcs hao
        obtain ⟨p, hp⟩ : ∃ p, p = ntp ps j := ⟨_, rfl⟩
        rw [← hp] at HCS HSN hz hs
        obtain ⟨t, z⟩ := p
        simp only at HCS hz hs
        obtain ⟨zn, rfl⟩ : ∃ zn : Nat, z = zn := ⟨z.toNat, by omega⟩
        have hlz := Lib.uvarint_length64 (x := zn) (by omega)
        have hzp := Lib.uvarint_pos zn
        have hlt2 := txtL_len t hs
        have HTT := Lib.hid (show (txtL t).length ≤ 74 ∧ 0 < (txtL t).length ∧ (Lib.uvarint zn).length ≤ 10 ∧ 0 < (Lib.uvarint zn).length ∧ t.size ≤ 64 ∧ zn < 18446744073709551616 from ⟨hlt2.2, hlt2.1, hlz, hzp, hs, by omega⟩)
        clear hp hz hs hlz hzp hlt2
        have HNR := Lib.hid (HN.out.below HBR.out.below)
        have c3 : wr.cell? ⟨w.heap.size, 3, none⟩ = some (.slice (some ⟨gp, op, none⟩) ps.length c) := by rw [← HAO.out]; exact HNR.out.cell 3 rfl
        have e1 := (HCS.out wr HBR.out.below).1
        have HFX : Hid (∀ W, Below W1.heap.size W1 W → W.cell? ⟨w.heap.size, 3, none⟩ = some (.slice (some ⟨gp, op, none⟩) ps.length c)) := Lib.hid (fun W hW => by rw [← HAO.out]; exact (HN.out.below hW).cell 3 rfl)
        go_wp2_with fail
        refine (refText_any t _ (by have := HTT.out; omega)).mono ?_
        rintro e w8 hg
        obtain ⟨g8, d8, rfl, hct, hbt⟩ := gives_row (l := txtL t) hg (HTT.out.2.1)
        have HU8 := Lib.hid (HBR.out.under hbt)
        have HCT8 := Lib.hid hct
        have HLE8 := Lib.hid (show (txtL t).length ≤ 100 ∧ (hd ++ (ps.take j).flatMap pairL).length ≤ 400000 from ⟨by have := HTT.out; omega, by have := HLB.out; omega⟩)
        clear hg hct hbt c3 e1
        go_wp2_with ((with_reducible show wpList _ _ _ (⟨some 44, _, _, _, _, _⟩ :: _) _ _); refine wpList_append_own _ rfl (.tmp 36) (.tmp 43) 36 rfl W1.heap.size 5 i0 (.int .u8 0) 1 1 Tryd.underlying36 HI.out.1 HI.out.2.1 HI.out.2.2.1 HI.out.2.2.2 rfl (by decide) _ _ _ rfl HU8.out.own ⟨g8, 0, none⟩ (txtL t).length d8 (Lib.byteCells (txtL t)) rfl (by rw [Lib.byteCells_length]; omega) HCT8.out (ones17 _) (by unfold maxLen; have := HLE8.out; omega) (by have := HLE8.out; omega) HU8.out.below.size ?_; intro v9 w9 hown hgrow _; have HB9 := Lib.hid (HU8.out.grown hown hgrow); clear hown hgrow; have f3 := HFX.out w9 HB9.out.below; have e2 := (HCS.out w9 HB9.out.below).2)
        clear HU8 HCT8 HLE8
        refine (refNum_any zn _ (by have := HTT.out; omega)).mono ?_
        rintro e w10 hg
        obtain ⟨g10, d10, rfl, hct, hbt⟩ := gives_row (l := Lib.uvarint zn) hg (HTT.out.2.2.2.1)
        have HU10 := Lib.hid (HB9.out.under hbt)
        have HCT10 := Lib.hid hct
        have HLE10 := Lib.hid (show (Lib.uvarint zn).length ≤ 100 ∧ (hd ++ (ps.take j).flatMap pairL ++ txtL t).length ≤ 400000 from ⟨by have := HTT.out; omega, by have := HLB.out; have := HTT.out; rw [List.length_append]; omega⟩)
        clear hg hct hbt f3 e2
        go_wp2_with ((with_reducible show wpList _ _ _ (⟨some 53, _, _, _, _, _⟩ :: _) _ _); refine wpList_append_own _ rfl (.tmp 45) (.tmp 52) 36 rfl W1.heap.size 5 i0 (.int .u8 0) 1 1 Tryd.underlying36 HI.out.1 HI.out.2.1 HI.out.2.2.1 HI.out.2.2.2 rfl (by decide) _ _ _ rfl HU10.out.own ⟨g10, 0, none⟩ (Lib.uvarint zn).length d10 (Lib.byteCells (Lib.uvarint zn)) rfl (by rw [Lib.byteCells_length]; omega) HCT10.out (ones17 _) (by unfold maxLen; have := HLE10.out; omega) (by have := HLE10.out; omega) HU10.out.below.size ?_; intro v11 w11 hown hgrow _; have HB11 := Lib.hid (HU10.out.grown hown hgrow); clear hown hgrow)
        clear HU10 HCT10 HLE10
        go_roundw
        case rel => have hJJ := HJ.out; have hPL := HPL.out; have hww : wrap64 ((j : Int) + 1) = ((j + 1 : Nat) : Int) := (by unfold wrap64; omega); exact ⟨j + 1, by rw [hww], HJ.out, Lib.hid (by rw [HSN.out]; unfold pairL; simp only [Int.toNat_natCast]; rw [← List.append_assoc, ← List.append_assoc]; exact HB11.out)⟩
        case measure => have hJJ := HJ.out; have hPL := HPL.out; have hww : wrap64 ((j : Int) + 1) = (j : Int) + 1 := (by unfold wrap64; omega); simp [hww]; simp [intOf]; omega
      · obtain rfl : j = ps.length := by omega
        have HE : Hid (R = hd ++ (ps.take ps.length).flatMap pairL) := Lib.hid (by rw [HR.out, List.take_length, HHD.out.1]; unfold ansBytesS; simp [List.append_assoc])
        have HNR := Lib.hid (HN.out.below HBR.out.below)
        have c3 : wr.cell? ⟨w.heap.size, 3, none⟩ = some (.slice ao ps.length c) := HNR.out.cell 3 rfl
        go_wp2
        go_ret
        rw [HE.out]
        exact ⟨_, rfl, ownMonoO HBR.out.own HX.out.size, HX.out.trans (HBR.out.below.mono HX.out.size)⟩
end Go.Proofs.YtgckgagnodkhjaaRRRRDoor
