/- A view that a call made: Spare, Take; the document's Spare, Take. No condition but sizes. -/
import Derived.Test.YtdbklklmpnlinaaFvSpare
import Derived.Test.YtdbklklmpnlinaaFvLearn
import Derived.Test.YtdbklklmpnlinaaHeldTill
import Derived.Deep.RegionHeldLaw
import Derived.Deep.DeepCutAuto
import Derived.Deep.AppendLies
namespace Go.Proofs.Ytdbklklmpnlinaa
open Go.RowKit Go.Maps

theorem fvInfoSp : (Try.prog.info? 51).map (fun i => (i.zero, i.size, i.bytes)) = some (some (.agg #[.int .i64 0, .int .u64 0]), 2, 16) := by kernel_rfl
section
variable {B A b N : Nat} {so : Option Addr} {sn sc : Nat} {ks : List Kn} {ss : List (Int × Int)} {k m : Int}
theorem FV.spn {w : World} (h : FV w B A b (.slice so sn sc) N ks ss k m) : sn = ss.length := by
  rcases h.sp.2 with ⟨e, hz⟩ | ⟨g, cap, cur, e, _⟩
  · injection e with _ e _; omega
  · injection e with _ e _
set_option maxHeartbeats 4000000 in
set_option maxRecDepth 100000 in
theorem take_hit (i : Nat) (w : World) (h : FV w B A b (.slice so sn sc) N ks ss k m) (hi : i < ss.length) :
    Calls Try.prog 47 #[.pointer (some ⟨A, 0, none⟩), .int .i64 i] w fun e w' => e = .returned (.tuple #[.agg #[.int .i64 (nts ss i).1, .int .u64 (nts ss i).2], .bool true]) ∧ FV w' B A b (.slice so sn sc) N ks ss k m ∧ Below w.heap.size w w' := by
  have hx := boxed_below w (.cells #[.int .i64 0, .int .u64 0] 51)
  have n1 := BX.new w 51 #[.int .i64 0, .int .u64 0]
  obtain ⟨W1, hW1⟩ : ∃ W, W = w.alloc (.cells #[.int .i64 0, .int .u64 0] 51) := ⟨_, rfl⟩
  rw [← hW1] at hx n1
  have hm1 := h.keep hx
  have hsn := hm1.spn
  have HS := Lib.hid (spares_fv so sn sc W1 hm1)
  obtain ⟨g, o, rfl, h1, h2⟩ := (sp_at hm1.sp rfl).get (j := i) (by omega)
  have hlt : (i : Int) < sn := by omega
  have hnn : (0 : Int) ≤ i := by omega
  have hbig : (sn : Int) ≤ 9223372036854775807 := by have := (sp_at hm1.sp rfl).len; omega
  have c1 : W1.cell? ⟨A, 1, none⟩ = some (.slice (some ⟨g, o, none⟩) sn sc) := hm1.view.cell 1 rfl
  have r0 := n1.cell 0 rfl
  have r1 := n1.cell 1 rfl
  have y0 := n1.frozen 0
  have y1 := n1.frozen 1
  have HM := Lib.hid hm1
  have HX := Lib.hid hx
  have HW := Lib.hid hW1
  have HN := Lib.hid n1
  have HG := Lib.hid (not_vs h (Nat.le_refl _))
  obtain ⟨p, hp⟩ : ∃ p, p = nts ss i := ⟨_, rfl⟩
  rw [← hp] at h1 h2 ⊢
  obtain ⟨a, v⟩ := p
  have HT : Hid (∀ cs t, W1.heap[w.heap.size]? = some (Obj.cells cs t (0, 0)) → t ≠ 9 ∧ t ≠ 30 ∧ t ≠ 3) := Lib.hid (fun cs t e => by
    unfold BX at n1
    rw [n1] at e
    injection e with e
    injection e with _ e _
    subst e
    decide)
  clear hx hW1 h hm1 n1 hsn hp hi
  go_enter Try.func47, Try.ntmps47
  go_upto_region 1 with fail
  rw [← HW.out]
  clear HW
  go_wp2_with fail
  refine HS.out.mono ?_
  rintro e w2 ⟨rfl, h2'⟩
  rw [← h2']
  clear h2'
  go_wp2
  refine bodyPost_ret (v := .tuple #[.agg #[.int .i64 a, .int .u64 v], .bool true]) (by simp [results, Try.results47, go_sem, *]) rfl ?_
  have ht : Turn (fun j => j = w.heap.size) W1 ((W1.setCell ⟨w.heap.size, 0, none⟩ (.int .i64 a)).setCell ⟨w.heap.size, 1, none⟩ (.int .u64 v)) := Turn.setCell (S := fun j => j = w.heap.size) (Turn.setCell (S := fun j => j = w.heap.size) (Turn.refl _ W1) (Or.inl rfl) _) (Or.inl rfl) _
  refine ⟨rfl, HM.out.turn ht (fun j hj e => by have e' : j = w.heap.size := e; subst e'; exact HG.out hj) (fun j cs t e hg => by have e' : j = w.heap.size := e; subst e'; exact HT.out cs t hg), HX.out.trans (ht.below (fun j e => by rw [show j = w.heap.size from e]; exact Nat.le_refl _) HX.out.size)⟩

theorem lackM_any (k m mm m2 : Int) : lackM k m false mm = lackM k m false m2 := by unfold lackM; split <;> rfl
set_option maxHeartbeats 4000000 in
set_option maxRecDepth 100000 in
theorem take_miss (i : Int) (w : World) (h : FV w B A b (.slice so sn sc) N ks ss k m) (hi : i < 0 ∨ (ss.length : Int) ≤ i) (hmax : i ≤ 9223372036854775807) :
    Calls Try.prog 47 #[.pointer (some ⟨A, 0, none⟩), .int .i64 i] w fun e w' => e = .returned (.tuple #[.agg #[.int .i64 0, .int .u64 0], .bool false]) ∧ FV w' B A b (.slice so sn sc) N ks ss (lackK k (cellB i) 2) (lackM k m (cellB i) (i + 1)) ∧ Turn (VS A b (.slice so sn sc)) w w' := by
  have hx := boxed_below w (.cells #[.int .i64 0, .int .u64 0] 51)
  have n1 := BX.new w 51 #[.int .i64 0, .int .u64 0]
  obtain ⟨W1, hW1⟩ : ∃ W, W = w.alloc (.cells #[.int .i64 0, .int .u64 0] 51) := ⟨_, rfl⟩
  rw [← hW1] at hx n1
  have hm1 := h.keep hx
  have hsn := hm1.spn
  have HS := Lib.hid (spares_fv so sn sc W1 hm1)
  have HCE := Lib.hid (fun W => fcell_any i W)
  obtain ⟨z, hz⟩ : ∃ z, IntKind.i64.wrap (i + 1) = z := ⟨_, rfl⟩
  have HLK := Lib.hid (lack_fv (cellB i) 2 z W1 hm1)
  have HZ := Lib.hid (show lackM k m (cellB i) z = lackM k m (cellB i) (i + 1) from by
    cases hcb : cellB i with
    | false => exact lackM_any _ _ _ _
    | true =>
      rw [cellB_iff] at hcb
      rw [← hz, IntKind.wrap_i64]
      congr 1
      omega)
  have r0 := n1.cell 0 rfl
  have r1 := n1.cell 1 rfl
  have HX := Lib.hid (Turn.of (S := VS A b (.slice so sn sc)) hx)
  have HW := Lib.hid hW1
  have HN := Lib.hid n1
  have HG := Lib.hid (not_vs h (Nat.le_refl _))
  have HLT := Lib.hid (show w.heap.size < W1.heap.size by rw [hW1, World.size_alloc]; omega)
  have hcase : i < 0 ∨ (0 ≤ i ∧ (sn : Int) ≤ i) := by omega
  clear hx hW1 h hm1 n1 hsn hi
  rcases hcase with hneg | ⟨hp, hge⟩
  · have hn1 : ¬ (0 ≤ i) := by omega
    go_enter Try.func47, Try.ntmps47
    go_upto_region 1 with fail
    rw [← HW.out]
    clear HW
    go_wp2_with fail
    refine (HCE.out _).mono ?_
    rintro e w3 ⟨rfl, h3⟩
    rw [← h3]
    clear h3 r0 r1
    go_wp2_with fail
    refine HLK.out.mono ?_
    rintro e w4 ⟨rfl, hf4, ht4⟩
    have n4 := (ht4.block _ HLT.out HG.out).trans HN.out
    have n4b : BX w4 w.heap.size 51 #[.int .i64 0, .int .u64 0] := n4
    have r0 := n4b.cell 0 rfl
    have r1 := n4b.cell 1 rfl
    have y0 := n4b.frozen 0
    have y1 := n4b.frozen 1
    have HF4 := Lib.hid hf4
    have HT4 := Lib.hid (HX.out.trans ht4)
    have HN4 := Lib.hid n4b
    clear hf4 ht4 n4 n4b
    go_wp2
    refine bodyPost_ret (v := .tuple #[.agg #[.int .i64 0, .int .u64 0], .bool false]) (by simp [results, Try.results47, go_sem, *]) rfl ?_
    have ht : Turn (fun j => j = w.heap.size) w4 ((w4.setCell ⟨w.heap.size, 0, none⟩ (.int .i64 0)).setCell ⟨w.heap.size, 1, none⟩ (.int .u64 0)) := Turn.setCell (S := fun j => j = w.heap.size) (Turn.setCell (S := fun j => j = w.heap.size) (Turn.refl _ w4) (Or.inl rfl) _) (Or.inl rfl) _
    refine ⟨rfl, ?_, HT4.out.through ht (fun j e => by rw [show j = w.heap.size from e]; exact Nat.le_refl _)⟩
    rw [← HZ.out]
    exact HF4.out.turn ht (fun j hj e => by have e' : j = w.heap.size := e; subst e'; exact HG.out hj) (fun j cs t e hg => by
      have e' : j = w.heap.size := e
      subst e'
      have e3 := HN4.out
      unfold BX at e3
      rw [e3] at hg
      injection hg with hg
      injection hg with _ hg _
      subst hg
      decide)
  · have hn1 : ¬ (i < (sn : Int)) := by omega
    go_enter Try.func47, Try.ntmps47
    go_upto_region 1 with fail
    rw [← HW.out]
    clear HW
    go_wp2_with fail
    refine HS.out.mono ?_
    rintro e w2 ⟨rfl, h2'⟩
    rw [← h2']
    clear h2'
    go_wp2_with fail
    refine (HCE.out _).mono ?_
    rintro e w3 ⟨rfl, h3⟩
    rw [← h3]
    clear h3 r0 r1
    go_wp2_with fail
    refine HLK.out.mono ?_
    rintro e w4 ⟨rfl, hf4, ht4⟩
    have n4 := (ht4.block _ HLT.out HG.out).trans HN.out
    have n4b : BX w4 w.heap.size 51 #[.int .i64 0, .int .u64 0] := n4
    have r0 := n4b.cell 0 rfl
    have r1 := n4b.cell 1 rfl
    have y0 := n4b.frozen 0
    have y1 := n4b.frozen 1
    have HF4 := Lib.hid hf4
    have HT4 := Lib.hid (HX.out.trans ht4)
    have HN4 := Lib.hid n4b
    clear hf4 ht4 n4 n4b
    go_wp2
    refine bodyPost_ret (v := .tuple #[.agg #[.int .i64 0, .int .u64 0], .bool false]) (by simp [results, Try.results47, go_sem, *]) rfl ?_
    have ht : Turn (fun j => j = w.heap.size) w4 ((w4.setCell ⟨w.heap.size, 0, none⟩ (.int .i64 0)).setCell ⟨w.heap.size, 1, none⟩ (.int .u64 0)) := Turn.setCell (S := fun j => j = w.heap.size) (Turn.setCell (S := fun j => j = w.heap.size) (Turn.refl _ w4) (Or.inl rfl) _) (Or.inl rfl) _
    refine ⟨rfl, ?_, HT4.out.through ht (fun j e => by rw [show j = w.heap.size from e]; exact Nat.le_refl _)⟩
    rw [← HZ.out]
    exact HF4.out.turn ht (fun j hj e => by have e' : j = w.heap.size := e; subst e'; exact HG.out hj) (fun j cs t e hg => by
      have e' : j = w.heap.size := e
      subst e'
      have e3 := HN4.out
      unfold BX at e3
      rw [e3] at hg
      injection hg with hg
      injection hg with _ hg _
      subst hg
      decide)
end
end Go.Proofs.Ytdbklklmpnlinaa
