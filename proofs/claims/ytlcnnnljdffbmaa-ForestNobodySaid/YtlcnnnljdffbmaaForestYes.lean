/- A view that a call made, without spares: known, lack, Need, At of a cell that is not known, Learn of a node without rows, Forget. No condition. -/
import Derived.Test.YtlcnnnljdffbmaaForestNo3
namespace Go.Proofs.Ytlcnnnljdffbmaa
open Go.RowKit Go.Maps

/-- How an element reads: as itself. -/
def knR (v : Value) : Option (DataW Value × List MemPlace) := some (.held v, [])
/-- A view that a call made: it has map b, no spares, and lacks (k, m). -/
structure MV (w : World) (A b N : Nat) (k m : Int) (D : DataW Value) : Prop where
  view : BX w A 78 #[.map (some b), .slice none 0 0, .int .i64 k, .int .i64 m]
  map : w.ownsMap Try.prog 3 knR b N D
  ne : A ≠ b
theorem ownsMap_block14 {P : Program} {t : TypeId} {H : Type} {R : Value → Option (DataW H × List MemPlace)} {w w' : World} {b n : Nat} {D : DataW H} (h : w.ownsMap P t R b n D) (hb : w'.heap[b]? = w.heap[b]?) : w'.ownsMap P t R b n D := by
  obtain ⟨es, c, e, r⟩ := h
  exact ⟨es, c, hb.trans e, r⟩
theorem MV.keep {w w' : World} {A b N : Nat} {k m : Int} {D : DataW Value} (h : MV w A b N k m D) (hb : Below w.heap.size w w') : MV w' A b N k m D := by
  have hm := h.map
  exact ⟨h.view.below hb, ownsMap_block14 hm (hb.block b hm.lt), h.ne⟩
theorem MV.set {w : World} {A b N : Nat} {k m : Int} {D : DataW Value} (h : MV w A b N k m D) (kk mm : Int) : MV ((w.setCell ⟨A, 2, none⟩ (.int .i64 kk)).setCell ⟨A, 3, none⟩ (.int .i64 mm)) A b N kk mm D := by
  have hm := h.map
  refine ⟨?_, ?_, h.ne⟩
  · have h1 := heap_setCell_same w A 2 _ _ (.int .i64 kk) h.view
    have h2 := heap_setCell_same _ A 3 _ _ (.int .i64 mm) h1
    exact h2
  · exact (hm.setCell (fun e => h.ne e.symm) _).setCell (fun e => h.ne e.symm) _
theorem MV.other {w : World} {A b N : Nat} {k m : Int} {D : DataW Value} {p : Addr} (h : MV w A b N k m D) (hA : A ≠ p.block) (hb : b ≠ p.block) (v : Value) : MV (w.setCell p v) A b N k m D :=
  ⟨(Below.heap_setCell _ _ _ _ hA).trans h.view, h.map.setCell hb _, h.ne⟩
theorem mlook {w : World} {A b N : Nat} {k m : Int} {D : DataW Value} (h : MV w A b N k m D) {c : Int} (hc : (Lit.int .i64 c).wf = true) {x : Value} (hat : D.atKey (.int .i64 c) (.held (.agg #[.int .i64 0, .int .u64 0, .int .u64 0, .int .i64 0, .string ⟨#[]⟩, .string ⟨#[]⟩, .bool false, .int .i64 0, .slice none 0 0, .slice none 0 0, .slice none 0 0])) = .held x) :
    (Instr.lookup 76 (.map (some b)) (.int .i64 c) true).run Try.prog w = .ok (.tuple #[x, .bool (Maps.has D (.int .i64 c))]) w := by
  have hm := h.map
  have hkey : keyOf Try.prog 3 (.int .i64 c) = some (.int .i64 c) := keyOf_int_mk Try.underlying3 hc
  obtain ⟨v, ps, hrun, hv⟩ := hm.look_ok keyedC Try.underlying76 (zeroKn w) (zd := .held (.agg #[.int .i64 0, .int .u64 0, .int .u64 0, .int .i64 0, .string ⟨#[]⟩, .string ⟨#[]⟩, .bool false, .int .i64 0, .slice none 0 0, .slice none 0 0, .slice none 0 0])) (zp := []) rfl hkey
  have hv1 : (DataW.held v : DataW Value) = D.atKey (.int .i64 c) (.held (.agg #[.int .i64 0, .int .u64 0, .int .u64 0, .int .i64 0, .string ⟨#[]⟩, .string ⟨#[]⟩, .bool false, .int .i64 0, .slice none 0 0, .slice none 0 0, .slice none 0 0])) := congrArg Prod.fst (Option.some.inj hv)
  have hv2 : (DataW.held v : DataW Value) = .held x := hv1.trans hat
  have hv3 : v = x := DataW.held.inj hv2
  rw [hv3] at hrun
  exact hrun
theorem mdrop {w : World} {A b B N : Nat} {k m : Int} {D : DataW Value} (h : MV w A b N k m D) (hB : B ≤ b) (hs : B ≤ w.heap.size) {c : Int} (hc : (Lit.int .i64 c).wf = true) (ty : TypeId) :
    ∃ w', (Builtin.delete_ #[76, 3] ty #[.map (some b), .int .i64 c]).run Try.prog w = .ok (.tuple #[]) w' ∧ MV w' A b N k m (D.del (.int .i64 c)) ∧ Below B w w' := by
  have hm := h.map
  have hkey : keyOf Try.prog 3 (.int .i64 c) = some (.int .i64 c) := keyOf_int_mk Try.underlying3 hc
  obtain ⟨w', hrun, hown, hturn⟩ := hm.drop keyedC Try.underlying76 hkey ty
  refine ⟨w', hrun, ⟨?_, hown, h.ne⟩, ?_⟩
  · exact (hturn.grown.block A (lt_of_block h.view) (fun e => h.ne (by injection e))).trans h.view
  · exact (Below.refl B w).grown hturn.grown hs (fun j e => by injection e with e; omega)
theorem mstore {w : World} {A b B N : Nat} {k m : Int} {D : DataW Value} (h : MV w A b N k m D) (hB : B ≤ b) (hs : B ≤ w.heap.size) {c : Int} (hc : (Lit.int .i64 c).wf = true) (cs : Array Value) (hN : N < 100) :
    ∃ w', (Instr.mapUpdate 76 (.map (some b)) (.int .i64 c) (.agg cs)).run Try.prog w = .ok () w' ∧ MV w' A b (N + 1) k m (D.put (.int .i64 c) (.held (.agg cs))) ∧ Below B w w' := by
  have hm := h.map
  have hkey : keyOf Try.prog 3 (.int .i64 c) = some (.int .i64 c) := keyOf_int_mk Try.underlying3 hc
  obtain ⟨w', hrun, hown, hturn⟩ := hm.store keyedC Try.underlying76 (by unfold maxLen; omega) hkey (d := .held (.agg cs)) (ps := []) rfl
  refine ⟨w', hrun, ⟨?_, hown, h.ne⟩, ?_⟩
  · exact (hturn.grown.block A (lt_of_block h.view) (fun e => h.ne (by injection e))).trans h.view
  · exact (Below.refl B w).grown hturn.grown hs (fun j e => by injection e with e; omega)

theorem known_yes {A b N : Nat} {k m : Int} {D : DataW Value} (w : World) (h : MV w A b N k m D) : Calls Try.prog 68 #[.pointer (some ⟨A, 0, none⟩)] w fun e w' => e = .returned (.map (some b)) ∧ w = w' := by
  have c0 : w.cell? ⟨A, 0, none⟩ = some (.map (some b)) := h.view.cell 0 rfl
  have HI := Lib.hid (isMade_yes A b _ k m w h.view)
  clear h
  go_enter Try.func68, Try.ntmps68
  go_wp2_with fail
  refine HI.out.mono ?_
  rintro e w2 ⟨rfl, h2⟩
  rw [← h2]
  clear h2
  go_wp2
  go_ret
  exact ⟨rfl, rfl⟩

set_option maxHeartbeats 1000000 in
theorem lack_yes {A b B N : Nat} {k m : Int} {D : DataW Value} (kk mm : Int) (w : World) (h : MV w A b N k m D) (hA : B ≤ A) (hs : B ≤ w.heap.size) : Calls Try.prog 69 #[.pointer (some ⟨A, 0, none⟩), .bool true, .agg #[.int .i64 kk, .int .i64 mm]] w fun e w' => e = .returned (.tuple #[]) ∧ MV w' A b N (if k = 0 then kk else k) (if k = 0 then mm else m) D ∧ Below B w w' ∧ ∀ j, j < w.heap.size → j ≠ A → w'.heap[j]? = w.heap[j]? := by
  have hx := boxed_below w (.cells #[.int .i64 kk, .int .i64 mm] 47)
  have n1 := BX.new w 47 #[.int .i64 kk, .int .i64 mm]
  obtain ⟨W1, hW1⟩ : ∃ W, W = w.alloc (.cells #[.int .i64 kk, .int .i64 mm] 47) := ⟨_, rfl⟩
  rw [← hW1] at hx n1
  have hm1 := h.keep hx
  have hne : w.heap.size ≠ A := fun e => by have := lt_of_block h.view; omega
  have hne' : A ≠ w.heap.size := fun e => hne e.symm
  have c2 : W1.cell? ⟨A, 2, none⟩ = some (.int .i64 k) := hm1.view.cell 2 rfl
  have c3 : W1.cell? ⟨A, 3, none⟩ = some (.int .i64 m) := hm1.view.cell 3 rfl
  have y2 := hm1.view.frozen 2
  have y3 := hm1.view.frozen 3
  have d0 : W1.cell? ⟨w.heap.size, 0, none⟩ = some (.int .i64 kk) := n1.cell 0 rfl
  have d1 : W1.cell? ⟨w.heap.size, 1, none⟩ = some (.int .i64 mm) := n1.cell 1 rfl
  have HI := Lib.hid (isMade_yes A b _ k m W1 hm1.view)
  have HX := Lib.hid (hx.mono hs)
  have HXF := Lib.hid hx
  have HM := Lib.hid hm1
  have HW := Lib.hid hW1
  have HA := Lib.hid hA
  clear h hx hW1 n1 hm1 hA hs
  by_cases hk : k = 0
  · rw [if_pos hk, if_pos hk]
    rw [hk] at c2
    go_enter Try.func69, Try.ntmps69
    go_upto_region 1 with fail
    rw [← HW.out]
    clear HW
    go_wp2_with fail
    refine HI.out.mono ?_
    rintro e w2 ⟨rfl, h2⟩
    rw [← h2]
    clear h2 hk
    go_wp2
    go_end0
    have hA := HA.out
    refine ⟨rfl, HM.out.set kk mm, (HX.out.setCell hA _).setCell hA _, fun j hj hjA => ?_⟩
    exact (Below.heap_setCell _ _ _ _ hjA).trans ((Below.heap_setCell _ _ _ _ hjA).trans (HXF.out.block j hj))
  · rw [if_neg hk, if_neg hk]
    go_enter Try.func69, Try.ntmps69
    go_upto_region 1 with fail
    rw [← HW.out]
    clear HW
    go_wp2_with fail
    refine HI.out.mono ?_
    rintro e w2 ⟨rfl, h2⟩
    rw [← h2]
    clear h2
    go_wp2
    refine bodyPost_ret (v := .tuple #[]) (by simp [results, Try.results69, go_sem]) rfl ?_
    exact ⟨rfl, HM.out, HX.out, fun j hj _ => HXF.out.block j hj⟩

theorem need_yes {A b N : Nat} {k m : Int} {D : DataW Value} (w : World) (h : MV w A b N k m D) : Calls Try.prog 37 #[.pointer (some ⟨A, 0, none⟩)] w fun e w' => e = .returned (.agg #[.int .i64 k, .int .i64 m]) ∧ Below w.heap.size w w' := by
  have hx := boxed_below w (.cells #[.int .i64 0, .int .i64 0] 47)
  have n1 := BX.new w 47 #[.int .i64 0, .int .i64 0]
  obtain ⟨W1, hW1⟩ : ∃ W, W = w.alloc (.cells #[.int .i64 0, .int .i64 0] 47) := ⟨_, rfl⟩
  rw [← hW1] at hx n1
  have hm1 := h.keep hx
  have hne : w.heap.size ≠ A := fun e => by have := lt_of_block h.view; omega
  have hne' : A ≠ w.heap.size := fun e => hne e.symm
  have c2 : W1.cell? ⟨A, 2, none⟩ = some (.int .i64 k) := hm1.view.cell 2 rfl
  have c3 : W1.cell? ⟨A, 3, none⟩ = some (.int .i64 m) := hm1.view.cell 3 rfl
  have d0 : W1.cell? ⟨w.heap.size, 0, none⟩ = some (.int .i64 0) := n1.cell 0 rfl
  have d1 : W1.cell? ⟨w.heap.size, 1, none⟩ = some (.int .i64 0) := n1.cell 1 rfl
  have y0 := n1.frozen 0
  have y1 := n1.frozen 1
  have HI := Lib.hid (isMade_yes A b _ k m W1 hm1.view)
  have HX := Lib.hid hx
  have HW := Lib.hid hW1
  clear h hx hW1 n1 hm1
  go_enter Try.func37, Try.ntmps37
  go_upto_region 1 with fail
  rw [← HW.out]
  clear HW
  go_wp2_with fail
  refine HI.out.mono ?_
  rintro e w2 ⟨rfl, h2⟩
  rw [← h2]
  clear h2
  go_wp2
  refine bodyPost_ret (v := .agg #[.int .i64 k, .int .i64 m]) (by simp [results, Try.results37, go_sem, *]) rfl ?_
  refine ⟨rfl, ?_⟩
  repeat' (first | (with_reducible exact HX.out) | (with_reducible refine Below.setCell ?_ ?_ _) | exact Nat.le_refl _)
end Go.Proofs.Ytlcnnnljdffbmaa
