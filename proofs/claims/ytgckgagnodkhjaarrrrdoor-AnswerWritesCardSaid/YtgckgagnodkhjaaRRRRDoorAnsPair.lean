/- answer.reader.pair: a pair is read, by plain functions of what is left and the fault. Condition: what has a fault has no bytes. -/
import Derived.Test.YtgckgagnodkhjaaRRRRDoorOpEye
import Derived.Test.YtgckgagnodkhjaaRRRRDoorAnsBase
import Derived.Deep.RegionHeldLaw
import Derived.Deep.DeepCutAuto
namespace Go.Proofs.YtgckgagnodkhjaaRRRRDoor
open Go.RowKit

theorem rnum_le (m : Nat) (bs : List UInt8) : (rnum m bs).1 ≤ m := by
  unfold rnum
  simp only
  split
  · exact Nat.zero_le _
  · rename_i h
    split
    · rename_i h2
      rcases Nat.lt_or_ge m (gat 9 0 0 bs).1 with h3 | h3
      · exact absurd ⟨h2, h3⟩ h
      · exact h3
    · exact Nat.zero_le _
theorem eN_le (m : Nat) (s : ES) : (eN m s).1 ≤ m := by
  unfold eN
  split
  · exact rnum_le _ _
  · exact Nat.zero_le _
theorem eT_size (m : Nat) (s : ES) : (eT m s).1.size ≤ m := by
  unfold eT
  split
  · split
    · split
      · exact Nat.zero_le _
      · split
        · exact Nat.zero_le _
        · rename_i h1 h2
          show (List.toArray _).size ≤ m
          rw [List.size_toArray, List.length_take]
          omega
    · exact Nat.zero_le _
  · exact Nat.zero_le _


theorem EyeS.under {w w' : World} {eb : Nat} {s : ES} (h : EyeS w eb s) (hb : Below w.heap.size w w') : EyeS w' eb s := ⟨h.1.keep hb, h.2⟩
theorem EyeS.drew {w : World} {eb : Nat} {s : ES} (h : EyeS w eb s) : EyeS w.drew eb s := h.under (Below.refl _ _).drew
theorem EyeS.made {w : World} {eb : Nat} {s : ES} (h : EyeS w eb s) (o : Obj) : EyeS (w.alloc o) eb s := h.under (boxed_below w o)
theorem EyeS.lt {w : World} {eb : Nat} {s : ES} (h : EyeS w eb s) : eb < w.heap.size := by obtain ⟨⟨_, h, _⟩, _⟩ := h; exact lt_of_block h
theorem ew_of_below {w w' : World} {eb : Nat} (hb : Below w.heap.size w w') : Ew eb w w' := ⟨hb.os, hb.tape, hb.output, hb.size, fun k hk _ => hb.block k hk⟩
theorem Ew.far {eb A : Nat} {w W : World} (h : Ew eb w W) (hA : w.heap.size ≤ A) (i : Nat) (u : Value) : Ew eb w (W.setCell ⟨A, i, none⟩ u) :=
  ⟨h.os, h.tape, h.output, by simp [World.setCell]; exact h.size, fun k hk hne => (Below.heap_setCell W ⟨A, i, none⟩ u k (by show k ≠ A; omega)).trans (h.block k hk hne)⟩
/-- No cell is a byte. -/
def NoByte (cs : Array Value) : Prop := ∀ (i : Nat) (x : Int), cs[i]? ≠ some (Value.int .u8 x)
theorem EyeS.far {W : World} {eb A : Nat} {s : ES} {t : TypeId} {cs : Array Value} (h : EyeS W eb s) (hA : BX W A t cs) (hno : NoByte cs) (hne : A ≠ eb) (i : Nat) (u : Value) : EyeS (W.setCell ⟨A, i, none⟩ u) eb s := by
  obtain ⟨⟨v, h1, ao, cc, h2, h3, h4, h5⟩, h6⟩ := h
  refine ⟨⟨v, (Below.heap_setCell W ⟨A, i, none⟩ u eb (fun e => hne e.symm)).trans h1, ao, cc, h2, h3, h4, fun hb => ?_⟩, h6⟩
  obtain ⟨g, o, e1, hg, hc⟩ := h5 hb
  refine ⟨g, o, e1, hg, fun j hj => ?_⟩
  have hgA : g ≠ A := by
    intro e2
    subst e2
    have := hc j hj
    unfold BX at hA
    simp only [World.cell?, hA] at this
    exact hno _ _ (by simpa using this)
  rw [World.cell?_of_block (w := W) (a := ⟨g, o + j, none⟩) (Below.heap_setCell W ⟨A, i, none⟩ u g hgA)]
  exact hc j hj
theorem readS_box {W w' : World} {eb k : Nat} {s : ES} {t : TypeId} {cs : Array Value} (h : ReadS W w' eb s) (hne : k ≠ eb) (hb : BX W k t cs) : BX w' k t cs := (h.2.block k (lt_of_block hb) hne).trans hb

theorem eN_uv (m y : Nat) (r : List UInt8) (hm : y ≤ m) (hy : y < 18446744073709551616) : eN m (Lib.uvarint y ++ r, 0) = (y, (r, 0)) := by
  unfold eN
  simp only [if_true]
  rw [rnum_uvarint m y r hy hm]
theorem eT_txt (s : ByteArray) (r : List UInt8) (hs : s.size ≤ 64) : eT 64 (txtL s ++ r, 0) = (s, (r, 0)) := by
  unfold eT txtL
  simp only [if_true]
  rw [List.append_assoc, rnum_uvarint _ s.size _ (by omega) (by omega)]
  have hl : s.data.toList.length = s.size := by simp
  simp only [if_true]
  rw [if_neg (by omega), if_neg (by simp only [List.length_append]; omega)]
  have e1 : (s.data.toList ++ r).take s.size = s.data.toList := by rw [← hl]; simp
  have e2 : (s.data.toList ++ r).drop s.size = r := by rw [← hl]; simp
  rw [e1, e2]


theorem noByte_pair (t : ByteArray) (v : Int) : NoByte #[.string t, .int .u64 v] := by
  intro i x
  match i with
  | 0 => simp
  | 1 => simp
  | n + 2 => simp
/-- While a pair is read: the reader's box, the result's, the pair's. -/
structure PP (w W : World) (eb A : Nat) (s : ES) (t : ByteArray) (v : Nat) : Prop where
  eye : EyeS W eb s
  rd : BX W w.heap.size 60 #[.pointer (some ⟨eb, 0, none⟩)]
  zz : BX W (w.heap.size + 1) 32 #[.string ⟨#[]⟩, .int .u64 0]
  pa : BX W A 32 #[.string t, .int .u64 (v : Nat)]
  ew : Ew eb w W
  ge : w.heap.size + 1 < A
  lt : eb < w.heap.size
/-- While a pair is read, ahead of the pair's box. -/
structure QS (w W : World) (eb : Nat) (s : ES) : Prop where
  eye : EyeS W eb s
  rd : BX W w.heap.size 60 #[.pointer (some ⟨eb, 0, none⟩)]
  zz : BX W (w.heap.size + 1) 32 #[.string ⟨#[]⟩, .int .u64 0]
  ew : Ew eb w W
  lt : eb < w.heap.size
section
variable {w W W' : World} {eb A : Nat} {s s' : ES} {t : ByteArray} {v : Nat}
theorem QS.read (h : QS w W eb s) (hr : ReadS W W' eb s') : QS w W' eb s' :=
  have h0 := h.lt
  ⟨hr.1, readS_box hr (by omega) h.rd, readS_box hr (by omega) h.zz, h.ew.trans hr.2, h.lt⟩
theorem QS.under (h : QS w W eb s) (hb : Below W.heap.size W W') : QS w W' eb s := ⟨h.eye.under hb, h.rd.below hb, h.zz.below hb, h.ew.trans (ew_of_below hb), h.lt⟩
theorem QS.drew (h : QS w W eb s) : QS w W.drew eb s := h.under (Below.refl _ _).drew
theorem PP.read (h : PP w W eb A s t v) (hr : ReadS W W' eb s') : PP w W' eb A s' t v :=
  have h0 := h.lt
  have h1 := h.ge
  ⟨hr.1, readS_box hr (by omega) h.rd, readS_box hr (by omega) h.zz, readS_box hr (by omega) h.pa, h.ew.trans hr.2, h.ge, h.lt⟩
theorem PP.drew (h : PP w W eb A s t v) : PP w W.drew eb A s t v :=
  have hb : Below W.heap.size W W.drew := (Below.refl _ _).drew
  ⟨h.eye.under hb, h.rd.below hb, h.zz.below hb, h.pa.below hb, h.ew.trans (ew_of_below hb), h.ge, h.lt⟩
theorem QS.new (h : QS w W eb s) (t : ByteArray) (v : Nat) : PP w (W.alloc (.cells #[.string t, .int .u64 (v : Nat)] 32)) eb W.heap.size s t v :=
  have h2 := h.under (boxed_below W (.cells #[.string t, .int .u64 (v : Nat)] 32))
  ⟨h2.eye, h2.rd, h2.zz, BX.new _ _ _, h2.ew, lt_of_block h.zz, h.lt⟩
end
theorem PP.ne0 {w W : World} {eb A : Nat} {s : ES} {t : ByteArray} {v : Nat} (h : PP w W eb A s t v) : A ≠ w.heap.size ∧ w.heap.size ≠ A := by have := h.ge; omega
theorem held_cell {W w' : World} {eb k i : Nat} {s : ES} {u : Value} (h : ReadS W w' eb s) (hne : k ≠ eb) (hc : W.cell? ⟨k, i, none⟩ = some u) : w'.cell? ⟨k, i, none⟩ = some u :=
  (World.cell?_of_block (a := ⟨k, i, none⟩) (h.2.block k (World.block_lt_of_cell? W _ hc) hne)).trans hc
theorem pp_set {w W : World} {eb A : Nat} {s : ES} (t : ByteArray) (v : Nat) (h : PP w W eb A s ⟨#[]⟩ 0) : PP w ((W.setCell ⟨A, 0, none⟩ (.string t)).setCell ⟨A, 1, none⟩ (.int .u64 (v : Nat))) eb A s t v := by
  have h0 := h.ge
  have h1 := h.lt
  have b1 : BX (W.setCell ⟨A, 0, none⟩ (.string t)) A 32 #[.string t, .int .u64 0] := heap_setCell_same W A 0 _ _ _ h.pa
  have b2 : BX ((W.setCell ⟨A, 0, none⟩ (.string t)).setCell ⟨A, 1, none⟩ (.int .u64 (v : Nat))) A 32 #[.string t, .int .u64 (v : Nat)] := heap_setCell_same _ A 1 _ _ _ b1
  refine ⟨((h.eye.far h.pa (noByte_pair _ _) (by omega) _ _).far b1 (noByte_pair _ _) (by omega) _ _), ?_, ?_, b2, (h.ew.far (by omega) _ _).far (by omega) _ _, h.ge, h.lt⟩
  · exact (Below.heap_setCell _ _ _ _ (by show w.heap.size ≠ A; omega)).trans ((Below.heap_setCell _ _ _ _ (by show w.heap.size ≠ A; omega)).trans h.rd)
  · exact (Below.heap_setCell _ _ _ _ (by show w.heap.size + 1 ≠ A; omega)).trans ((Below.heap_setCell _ _ _ _ (by show w.heap.size + 1 ≠ A; omega)).trans h.zz)

theorem pp_end {w W : World} {eb A : Nat} {s : ES} {t t' : ByteArray} {v v' : Nat} (h : PP w W eb A s t v) : ReadS w ((W.setCell ⟨w.heap.size + 1, 0, none⟩ (.string t')).setCell ⟨w.heap.size + 1, 1, none⟩ (.int .u64 (v' : Nat))).drew eb s := by
  have h1 := h.lt
  have b1 : BX (W.setCell ⟨w.heap.size + 1, 0, none⟩ (.string t')) (w.heap.size + 1) 32 #[.string t', .int .u64 0] := heap_setCell_same W _ 0 _ _ _ h.zz
  have he := (h.eye.far h.zz (noByte_pair _ _) (by omega) 0 (.string t')).far b1 (noByte_pair _ _) (by omega) 1 (.int .u64 (v' : Nat))
  have hw := (h.ew.far (A := w.heap.size + 1) (by omega) 0 (.string t')).far (A := w.heap.size + 1) (by omega) 1 (.int .u64 (v' : Nat))
  exact ⟨he.drew, hw.trans (ew_of_below (Below.refl _ _).drew)⟩

set_option maxHeartbeats 4000000 in
set_option maxRecDepth 100000 in
theorem pair_any (eb : Nat) (s : ES) (w : World) (he : EyeS w eb s) :
    Calls Tryd.prog 36 #[.agg #[.pointer (some ⟨eb, 0, none⟩)]] w fun e w' => e = .returned (.tuple #[.agg #[.string (eT 64 s).1, .int .u64 ((eN 18446744073709551615 (eT 64 s).2).1 : Nat)], .bool ((eN 18446744073709551615 (eT 64 s).2).2.2 == 0)]) ∧ ReadS w w' eb (eN 18446744073709551615 (eT 64 s).2).2 := by
  have hT := fun W (h : EyeS W eb s) => eyeTextF eb 64 s W h (by omega)
  rcases hQ : eT 64 s with ⟨t, s1⟩
  rw [hQ] at hT
  simp only at hT ⊢
  have hN := fun W (h : EyeS W eb s1) => eyeNumF eb 18446744073709551615 s1 W h
  rcases hQ2 : eN 18446744073709551615 s1 with ⟨v, s2⟩
  rw [hQ2] at hN
  simp only at hN ⊢
  obtain ⟨W2, hW2, b1, b2, hb2⟩ := bx2 w 60 32 #[.pointer (some ⟨eb, 0, none⟩)] #[.string ⟨#[]⟩, .int .u64 0]
  have HT := Lib.hid hT
  have HNM := Lib.hid hN
  have HW2 := Lib.hid hW2
  have hs2 : W2.heap.size = w.heap.size + 1 + 1 := by rw [hW2, World.size_alloc, World.size_alloc]
  have hlt := he.lt
  have hr1 : w.heap.size ≠ eb := by omega
  have hr2 : w.heap.size + 1 ≠ eb := by omega
  have hr3 : W2.heap.size ≠ eb := by omega
  have HQ0 : Hid (QS w W2 eb s) := Lib.hid ⟨he.under hb2, b1, b2, ew_of_below hb2, hlt⟩
  have HS2 := Lib.hid hs2
  have c0 : W2.cell? ⟨w.heap.size, 0, none⟩ = some (.pointer (some ⟨eb, 0, none⟩)) := b1.cell 0 rfl
  clear hT hN hQ hQ2 hW2 b1 b2 hb2 he hlt hs2
  go_enter Tryd.func36, Tryd.ntmps36
  go_upto_region 1 with fail
  rw [← HW2.out]
  clear HW2
  go_cut [4] (fun s4 wx => ∃ A, s4 = .pointer (some ⟨A, 0, none⟩) ∧ Hid (PP w wx eb A s2 t v))
  case first =>
    go_region_held_law (fun V => V.cell? ⟨w.heap.size, 0, none⟩ = some (.pointer (some ⟨eb, 0, none⟩)))
      (first | assumption | go_keep)
      (first
        | (go_at_call 28; refine (HT.out _ (by first | exact HQ0.out.eye | exact HQ0.out.eye.drew | exact (HQ0.out.new ⟨#[]⟩ 0).eye.drew | exact (HQ0.out.drew.new ⟨#[]⟩ 0).eye)).mono ?_; rintro e wa ⟨rfl, hra⟩; have ca := held_cell hra hr1 (by first | assumption | go_keep); (first | (have HPA : Hid (PP w wa eb W2.heap.size s1 ⟨#[]⟩ 0) := Lib.hid (PP.read (by first | exact (HQ0.out.new ⟨#[]⟩ 0).drew | exact HQ0.out.drew.new ⟨#[]⟩ 0) hra)) | skip); have HQA : Hid (QS w wa eb s1) := Lib.hid (QS.read (by first | exact HQ0.out.drew | exact (HQ0.out.under (boxed_below _ _)).drew) hra); clear hra)
        | (go_at_call 34; refine (HNM.out _ (by first | exact HQA.out.eye | exact (HQA.out.new ⟨#[]⟩ 0).eye)).mono ?_; rintro e wb ⟨rfl, hrb⟩; have cb := held_cell hrb hr1 (by first | assumption | go_keep); (first | (have HPB : Hid (PP w wb eb W2.heap.size s2 ⟨#[]⟩ 0) := Lib.hid (PP.read HPA.out hrb)) | (have HPB : Hid (PP w wb eb wa.heap.size s2 ⟨#[]⟩ 0) := Lib.hid (PP.read (HQA.out.new ⟨#[]⟩ 0) hrb)) | skip); (first | (have k0 := HPB.out.pa.cell 0 rfl; have k1 := HPB.out.pa.cell 1 rfl; have y0 := HPB.out.pa.frozen 0; have y1 := HPB.out.pa.frozen 1; have ne1 := HPB.out.ne0.1; have ne2 := HPB.out.ne0.2) | skip); (first | (have HQB : Hid (QS w wb eb s2) := Lib.hid (QS.read HQA.out hrb)) | skip); clear hrb))
    all_goals first | go_meet | (go_step; go_meet) | (go_wp2_with fail; go_meet)
    all_goals refine ⟨_, rfl, Lib.hid ?_⟩
    all_goals first | exact pp_set t v HPB.out | exact (pp_set t v HPB.out).drew | exact HQB.out.new t v
  case rest =>
    obtain ⟨A, rfl, HPW⟩ := hcut
    have c1 : wc.cell? ⟨w.heap.size, 0, none⟩ = some (.pointer (some ⟨eb, 0, none⟩)) := HPW.out.rd.cell 0 rfl
    have k0 : wc.cell? ⟨A, 0, none⟩ = some (.string t) := HPW.out.pa.cell 0 rfl
    have k1 : wc.cell? ⟨A, 1, none⟩ = some (.int .u64 (v : Nat)) := HPW.out.pa.cell 1 rfl
    have z0 : wc.cell? ⟨w.heap.size + 1, 0, none⟩ = some (.string ⟨#[]⟩) := HPW.out.zz.cell 0 rfl
    have z1 : wc.cell? ⟨w.heap.size + 1, 1, none⟩ = some (.int .u64 0) := HPW.out.zz.cell 1 rfl
    have y0 := HPW.out.zz.frozen 0
    have y1 := HPW.out.zz.frozen 1
    have hA1 : A ≠ w.heap.size + 1 := by have := HPW.out.ge; omega
    have hA2 : w.heap.size + 1 ≠ A := fun e => hA1 e.symm
    have hA3 : A ≠ w.heap.size := HPW.out.ne0.1
    have hA4 : w.heap.size ≠ A := HPW.out.ne0.2
    have HF := Lib.hid (fun n => fault_any eb s2.2 s2.1 (wc.drewN n) (HPW.out.eye.under ⟨rfl, rfl, rfl, Nat.le_refl _, fun _ _ => rfl⟩).1)
    have HFD := Lib.hid (fault_any eb s2.2 s2.1 wc.drew HPW.out.eye.drew.1)
    clear HT HNM HQ0 HS2 c0
    go_upto_region 2 with fail
    go_region_held_law (fun V => V.cell? ⟨w.heap.size, 0, none⟩ = some (.pointer (some ⟨eb, 0, none⟩)) ∧ V.cell? ⟨A, 0, none⟩ = some (.string t) ∧ V.cell? ⟨A, 1, none⟩ = some (.int .u64 (v : Nat)))
      (first | assumption | go_keep)
      (first
        | (go_at_call 29; refine HFD.out.mono ?_; rintro e wd ⟨rfl, hwd⟩; rw [← hwd]; clear hwd))
    go_wp2
    refine bodyPost_ret (v := .tuple #[.agg #[.string t, .int .u64 (v : Nat)], .bool (s2.2 == 0)]) (by simp [results, Tryd.results36, go_sem, *]) rfl ?_
    exact ⟨rfl, pp_end HPW.out⟩
end Go.Proofs.YtgckgagnodkhjaaRRRRDoor
