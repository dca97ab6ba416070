/- A view that a call made, without spares: Forget, Learn of a node without rows. slices.Clone of nil comes from the shelf. No condition. -/
import Derived.Test.YtlcnnnljdffbmaaForestYes2
import Derived.Deep.QuietTactic
import Derived.BigQuiet
namespace Go.Proofs.Ytlcnnnljdffbmaa
open Go.RowKit Go.Maps

set_option maxHeartbeats 1000000 in
theorem forget_yes {A b B N : Nat} {k m : Int} {D : DataW Value} (c a u : Int) (hb : Bool) (w : World) (hc : (Lit.int .i64 c).wf = true) (h : MV w A b N k m D) (hB : B ≤ b) (hs : B ≤ w.heap.size) (hat : D.atKey (.int .i64 c) (.held (.agg #[.int .i64 0, .int .u64 0, .int .u64 0, .int .i64 0, .string ⟨#[]⟩, .string ⟨#[]⟩, .bool false, .int .i64 0, .slice none 0 0, .slice none 0 0, .slice none 0 0])) = .held (.agg #[.int .i64 a, .int .u64 u, .int .u64 0, .int .i64 0, .string ⟨#[]⟩, .string ⟨#[]⟩, .bool false, .int .i64 0, .slice none 0 0, .slice none 0 0, .slice none 0 0])) (hno : Maps.has D (.int .i64 c) = hb) : Calls Try.prog 23 #[.pointer (some ⟨A, 0, none⟩), .int .i64 c] w fun e w' => e = .returned (.bool hb) ∧ MV w' A b N k m (D.del (.int .i64 c)) ∧ Below B w w' := by
  have hlook : (Instr.lookup 76 (.map (some b)) (.int .i64 c) true).run Try.prog w = .ok (.tuple #[.agg #[.int .i64 a, .int .u64 u, .int .u64 0, .int .i64 0, .string ⟨#[]⟩, .string ⟨#[]⟩, .bool false, .int .i64 0, .slice none 0 0, .slice none 0 0, .slice none 0 0], .bool hb]) w := by
    have hl := mlook h hc hat
    rw [hno] at hl
    exact hl
  have HI := Lib.hid (known_yes w h)
  have hx := boxed_below w (.cells #[.int .i64 a, .int .u64 u, .int .u64 0, .int .i64 0, .string ⟨#[]⟩, .string ⟨#[]⟩, .bool false, .int .i64 0, .slice none 0 0, .slice none 0 0, .slice none 0 0] 52)
  obtain ⟨W1, hW1⟩ : ∃ W, W = w.alloc (.cells #[.int .i64 a, .int .u64 u, .int .u64 0, .int .i64 0, .string ⟨#[]⟩, .string ⟨#[]⟩, .bool false, .int .i64 0, .slice none 0 0, .slice none 0 0, .slice none 0 0] 52) := ⟨_, rfl⟩
  rw [← hW1] at hx
  have hm1 := h.keep hx
  have HI1 := Lib.hid (known_yes W1 hm1)
  obtain ⟨w2, hdrop, hm2, hb2⟩ := mdrop hm1 hB (Nat.le_trans hs hx.size) hc 0
  have HM := Lib.hid hm2
  have HX := Lib.hid ((hx.mono hs).trans hb2)
  have HW := Lib.hid hW1
  clear hx hW1 h hm1 hm2 hb2 hc hat hno hs hB
  go_enter Try.func23, Try.ntmps23
  go_wp2_with fail
  refine HI.out.mono ?_
  rintro e w3 ⟨rfl, h3⟩
  rw [← h3]
  clear h3
  go_upto_region 2 with fail
  rw [← HW.out]
  clear HW
  go_wp2_with fail
  refine HI1.out.mono ?_
  rintro e w4 ⟨rfl, h4⟩
  rw [← h4]
  clear h4
  go_wp2
  go_ret
  exact ⟨rfl, HM.out, HX.out⟩

theorem below_drewN14 (B : Nat) (w : World) (n : Nat) : Below B w (w.drewN n) := ⟨rfl, rfl, rfl, Nat.le_refl _, fun _ _ => rfl⟩
theorem MV.drewN {w : World} {A b N : Nat} {k m : Int} {D : DataW Value} (h : MV w A b N k m D) (n : Nat) : MV (w.drewN n) A b N k m D :=
  ⟨h.view, ownsMap_block14 h.map rfl, h.ne⟩
theorem MV.drew {w : World} {A b N : Nat} {k m : Int} {D : DataW Value} (h : MV w A b N k m D) : MV w.drew A b N k m D :=
  ⟨h.view, ownsMap_block14 h.map rfl, h.ne⟩
theorem setCell_idem14 {w : World} {g i : Nat} {t : TypeId} {cs : Array Value} {v : Value} (h : BX w g t cs) (hv : cs[i]? = some v) : w.setCell ⟨g, i, none⟩ v = w := by
  have e : cs.setIfInBounds i v = cs := by
    obtain ⟨hi, he⟩ := Array.getElem?_eq_some_iff.1 hv
    apply Array.ext_getElem?
    intro j
    rw [Array.getElem?_setIfInBounds]
    by_cases hij : i = j
    · subst hij
      simp [hi, he]
    · simp [hij]
  have h2 : (w.setCell ⟨g, i, none⟩ v).heap = w.heap := by
    apply Array.ext_getElem?
    intro j
    by_cases hj : j = g
    · subst hj
      rw [heap_setCell_same w j i cs t v h, e]
      exact h.symm
    · exact Below.heap_setCell _ _ _ _ hj
  show ({ w with heap := (w.setCell ⟨g, i, none⟩ v).heap } : World) = w
  rw [h2]

set_option maxHeartbeats 1000000 in
set_option maxRecDepth 100000 in
theorem learn_yes {A b B N : Nat} {k m : Int} {D : DataW Value} (a u : Int) (w : World) (ha : (Lit.int .i64 a).wf = true) (hcell : cellB a = true) (hN : N < 100) (h : MV w A b N k m D) (hB : B ≤ b) (hs : B ≤ w.heap.size) : Calls Try.prog 19 #[.pointer (some ⟨A, 0, none⟩), .agg #[.int .i64 a, .int .u64 u, .int .u64 0, .int .i64 0, .string ⟨#[]⟩, .string ⟨#[]⟩, .bool false, .int .i64 0, .slice none 0 0, .slice none 0 0, .slice none 0 0]] w fun e w' => e = .returned (.bool true) ∧ MV w' A b (N + 1) k m (D.put (.int .i64 a) (.held (.agg #[.int .i64 a, .int .u64 u, .int .u64 0, .int .i64 0, .string ⟨#[]⟩, .string ⟨#[]⟩, .bool false, .int .i64 0, .slice none 0 0, .slice none 0 0, .slice none 0 0]))) ∧ Below B w w' := by
  have hx := boxed_below w (.cells #[.int .i64 a, .int .u64 u, .int .u64 0, .int .i64 0, .string ⟨#[]⟩, .string ⟨#[]⟩, .bool false, .int .i64 0, .slice none 0 0, .slice none 0 0, .slice none 0 0] 52)
  have n1 := BX.new w 52 #[.int .i64 a, .int .u64 u, .int .u64 0, .int .i64 0, .string ⟨#[]⟩, .string ⟨#[]⟩, .bool false, .int .i64 0, .slice none 0 0, .slice none 0 0, .slice none 0 0]
  obtain ⟨W1, hW1⟩ : ∃ W, W = w.alloc (.cells #[.int .i64 a, .int .u64 u, .int .u64 0, .int .i64 0, .string ⟨#[]⟩, .string ⟨#[]⟩, .bool false, .int .i64 0, .slice none 0 0, .slice none 0 0, .slice none 0 0] 52) := ⟨_, rfl⟩
  rw [← hW1] at hx n1
  have hm1 := h.keep hx
  have hlt := lt_of_block h.view
  have HI := Lib.hid (isMade_yes A b _ k m _ hm1.view)
  have HCE := Lib.hid (fun W => fcell_any a W)
  rw [hcell] at HCE
  have HC1 := Lib.hid (fun W => Try.slices_Clone_nil_f63 0 0 W)
  have HC2 := Lib.hid (fun W => Try.slices_Clone_nil_f64 0 0 W)
  have HC3 := Lib.hid (fun W => Try.slices_Clone_nil_f65 0 0 W)
  have HM := Lib.hid hm1
  have HX := Lib.hid (hx.mono hs)
  have HN1 := Lib.hid n1
  have HW := Lib.hid hW1
  have hsz : B ≤ W1.heap.size := Nat.le_trans hs hx.size
  have HP := Lib.hid (show (B ≤ b ∧ B ≤ W1.heap.size) ∧ N < 100 ∧ (Lit.int .i64 a).wf = true ∧ A ≠ w.heap.size ∧ b ≠ w.heap.size from ⟨⟨hB, hsz⟩, hN, ha, by omega, fun e => by have := h.map.lt; omega⟩)
  have n1d : ∀ n, BX (W1.drewN n) w.heap.size 52 #[.int .i64 a, .int .u64 u, .int .u64 0, .int .i64 0, .string ⟨#[]⟩, .string ⟨#[]⟩, .bool false, .int .i64 0, .slice none 0 0, .slice none 0 0, .slice none 0 0] := fun n => n1
  have z8 : ∀ n, (W1.drewN n).setCell ⟨w.heap.size, 8, none⟩ (.slice none 0 0) = W1.drewN n := fun n => setCell_idem14 (n1d n) rfl
  have z9 : ∀ n, (W1.drewN n).setCell ⟨w.heap.size, 9, none⟩ (.slice none 0 0) = W1.drewN n := fun n => setCell_idem14 (n1d n) rfl
  have z10 : ∀ n, (W1.drewN n).setCell ⟨w.heap.size, 10, none⟩ (.slice none 0 0) = W1.drewN n := fun n => setCell_idem14 (n1d n) rfl
  have k0 : W1.cell? ⟨w.heap.size, 0, none⟩ = some (.int .i64 a) := n1.cell 0 rfl
  have k1 : W1.cell? ⟨w.heap.size, 1, none⟩ = some (.int .u64 u) := n1.cell 1 rfl
  have k2 : W1.cell? ⟨w.heap.size, 2, none⟩ = some (.int .u64 0) := n1.cell 2 rfl
  have k3 : W1.cell? ⟨w.heap.size, 3, none⟩ = some (.int .i64 0) := n1.cell 3 rfl
  have k4 : W1.cell? ⟨w.heap.size, 4, none⟩ = some (.string ⟨#[]⟩) := n1.cell 4 rfl
  have k5 : W1.cell? ⟨w.heap.size, 5, none⟩ = some (.string ⟨#[]⟩) := n1.cell 5 rfl
  have k6 : W1.cell? ⟨w.heap.size, 6, none⟩ = some (.bool false) := n1.cell 6 rfl
  have k7 : W1.cell? ⟨w.heap.size, 7, none⟩ = some (.int .i64 0) := n1.cell 7 rfl
  have k8 : W1.cell? ⟨w.heap.size, 8, none⟩ = some (.slice none 0 0) := n1.cell 8 rfl
  have k9 : W1.cell? ⟨w.heap.size, 9, none⟩ = some (.slice none 0 0) := n1.cell 9 rfl
  have k10 : W1.cell? ⟨w.heap.size, 10, none⟩ = some (.slice none 0 0) := n1.cell 10 rfl
  have y8 := n1.frozen 8
  have y9 := n1.frozen 9
  have y10 := n1.frozen 10
  clear hx hm1 h hB hs hN ha hlt n1 n1d hW1 hsz
  go_enter Try.func19, Try.ntmps19
  go_upto_region 1 with fail
  rw [← HW.out]
  clear HW
  go_wp2_with fail
  refine HI.out.mono ?_
  rintro e w3 ⟨rfl, h3⟩
  rw [← h3]
  clear h3
  go_wp2_with fail
  refine (HCE.out _).mono ?_
  rintro e w4 ⟨rfl, h4⟩
  rw [← h4]
  clear h4
  go_upto_region 4 with fail
  go_cut [] (fun wx => Hid (BX wx w.heap.size 52 #[.int .i64 a, .int .u64 u, .int .u64 0, .int .i64 0, .string ⟨#[]⟩, .string ⟨#[]⟩, .bool false, .int .i64 0, .slice none 0 0, .slice none 0 0, .slice none 0 0] ∧ MV wx A b N k m D ∧ Below W1.heap.size W1 wx))
  case first =>
    go_quiet (first
      | (go_at_call 63; exact Calls.quiet_of_same (HC1.out _))
      | (go_at_call 64; exact Calls.quiet_of_same (HC2.out _))
      | (go_at_call 65; exact Calls.quiet_of_same (HC3.out _)))
    go_wp2_with fail
    go_meet
    exact Lib.hid ⟨HN1.out, HM.out.drewN _, below_drewN14 _ _ _⟩
  case rest =>
    obtain ⟨hn, hm, hb⟩ := hcut.out
    obtain ⟨w2, hst, hm2, hb2⟩ := mstore (B := B) (w := wc.drew) hm.drew HP.out.1.1 (Nat.le_trans HP.out.1.2 hb.size) HP.out.2.2.1 #[.int .i64 a, .int .u64 u, .int .u64 0, .int .i64 0, .string ⟨#[]⟩, .string ⟨#[]⟩, .bool false, .int .i64 0, .slice none 0 0, .slice none 0 0, .slice none 0 0] HP.out.2.1
    clear k0 k1 k2 k3 k4 k5 k6 k7 k8 k9 k10 y8 y9 y10 z8 z9 z10
    have k0 : wc.cell? ⟨w.heap.size, 0, none⟩ = some (.int .i64 a) := hn.cell 0 rfl
    have k1 : wc.cell? ⟨w.heap.size, 1, none⟩ = some (.int .u64 u) := hn.cell 1 rfl
    have k2 : wc.cell? ⟨w.heap.size, 2, none⟩ = some (.int .u64 0) := hn.cell 2 rfl
    have k3 : wc.cell? ⟨w.heap.size, 3, none⟩ = some (.int .i64 0) := hn.cell 3 rfl
    have k4 : wc.cell? ⟨w.heap.size, 4, none⟩ = some (.string ⟨#[]⟩) := hn.cell 4 rfl
    have k5 : wc.cell? ⟨w.heap.size, 5, none⟩ = some (.string ⟨#[]⟩) := hn.cell 5 rfl
    have k6 : wc.cell? ⟨w.heap.size, 6, none⟩ = some (.bool false) := hn.cell 6 rfl
    have k7 : wc.cell? ⟨w.heap.size, 7, none⟩ = some (.int .i64 0) := hn.cell 7 rfl
    have k8 : wc.cell? ⟨w.heap.size, 8, none⟩ = some (.slice none 0 0) := hn.cell 8 rfl
    have k9 : wc.cell? ⟨w.heap.size, 9, none⟩ = some (.slice none 0 0) := hn.cell 9 rfl
    have k10 : wc.cell? ⟨w.heap.size, 10, none⟩ = some (.slice none 0 0) := hn.cell 10 rfl
    have c0 : wc.cell? ⟨A, 0, none⟩ = some (.map (some b)) := hm.view.cell 0 rfl
    have HE := Lib.hid (show MV w2 A b (N + 1) k m (D.put (.int .i64 a) (.held (.agg #[.int .i64 a, .int .u64 u, .int .u64 0, .int .i64 0, .string ⟨#[]⟩, .string ⟨#[]⟩, .bool false, .int .i64 0, .slice none 0 0, .slice none 0 0, .slice none 0 0]))) ∧ Below B w w2 from ⟨hm2, (HX.out.trans (hb.mono HP.out.1.2)).trans ((Below.refl B wc).drew.trans hb2)⟩)
    clear hn hm hb hm2 hb2 HM HX HN1 hcut HP
    go_upto_region 5 with fail
    go_region
    go_wp2
    go_ret
    exact ⟨rfl, HE.out⟩
end Go.Proofs.Ytlcnnnljdffbmaa
