/- The document's Spare and Take. Condition: few spares. -/
import Derived.Test.YtefmnfplipdnmaaFvTake
import Derived.Deep.QuietTactic
import Derived.BigQuiet
namespace Go.Proofs.Ytefmnfplipdnmaa
open Go.RowKit Go.Maps

theorem below_drewN14 {B : Nat} {a w : World} (h : Below B a w) (n : Nat) : Below B a (w.drewN n) := h.trans ⟨rfl, rfl, rfl, Nat.le_refl _, fun _ _ => rfl⟩
/-- A nil row has nothing. -/
def NilN (so : Option Addr) (sn sc : Nat) : Prop := so = none → sn = 0 ∧ sc = 0
theorem sp_news {w : World} {g o n c : Nat} {sp : Option Nat} {ss : List (Int × Int)} (h : SpAt w (.slice (some ⟨g, o, sp⟩) n c) ss) : ∀ j u, (spC ss)[j]? = some u → w.cell? ((⟨g, o, sp⟩ : Addr).add j) = some u := by
  intro j u hu
  have hj : j < ss.length * 2 := by
    have := (List.getElem?_eq_some_iff.1 hu).1
    rw [spC_len] at this
    exact this
  have hn := h.len.1
  obtain ⟨g2, o2, e, h1, h2⟩ := h.get (j := j / 2) (by omega)
  injection e with e
  injection e with e1 e2 e3
  subst e1 e2 e3
  obtain ⟨q1, q2⟩ := spC_at ss (j / 2) (by omega)
  have hadd : (⟨g, o, none⟩ : Addr).add j = ⟨g, o + j, none⟩ := by unfold Addr.add; split <;> simp_all
  rw [hadd]
  rcases Nat.mod_two_eq_zero_or_one j with hm | hm
  · have e : j = j / 2 * 2 := by omega
    rw [← e] at q1 h1
    rw [q1] at hu
    injection hu with hu
    rw [← hu]
    exact h1
  · have e : j = j / 2 * 2 + 1 := by omega
    rw [show o + j / 2 * 2 + 1 = o + j by omega] at h2
    rw [← e] at q2
    rw [q2] at hu
    injection hu with hu
    rw [← hu]
    exact h2
theorem step_append_sp {w : World} {ops : Array Oper} {o : Oper} {a : Act} {K : Act → World → Prop} {Q : Exit → Act → World → Prop} {E : Prop} (hgd : o.guard = none) (s x : Operand)
    (ho : o.op = .call { callee := .builtin .append, args := #[s, x], argTypes := #[27, 27] }) (base : Nat) (v : Value) (hs : a.eval s = v) (hown : w.ownsRow base 47 2 v 0 [])
    (so : Option Addr) (n c : Nat) (ss : List (Int × Int)) (hx : a.eval x = .slice so n c) (hsp : SpAt w (.slice so n c) ss) (hnil : NilN so n c) (hn : n ≤ 1000000) (hbase : base ≤ w.heap.size)
    (h : ∀ v' w', w'.ownsRow base 47 2 v' n (spC ss) → w.grownBy w' v.ownBlock → K (a.put o.dst v') w') :
    if Region.wanted o (yielded ops a.tmps) = true then Oper.wp Try.prog o a w K Q else E := by
  have hw : Region.wanted o (yielded ops a.tmps) = true := by simp [Region.wanted, hgd]
  rw [if_pos hw]
  obtain ⟨i0, hi, hz0, hz1, hz2⟩ := info_parts fvInfoSp
  have hl := hsp.len.1
  cases so with
  | none =>
    obtain ⟨rfl, rfl⟩ := hnil rfl
    have hss : ss = [] := List.eq_nil_of_length_eq_zero hl.symm
    subst hss
    have hrun := run_append_owned_none (P := Try.prog) (w := w) base 27 o.type 47 i0 2 Try.underlying27 hi v 0 [] hown
    unfold Oper.wp
    simp [execOp, ho, resolve, invoke, builtin, hs, hx, hrun, Result.andThen]
    exact h _ _ hown ⟨rfl, rfl, rfl, Nat.le_refl _, fun _ _ _ => rfl⟩
  | some ad =>
    refine wp_append_own w s x 27 ho base 47 i0 _ 2 16 Try.underlying27 hi hz0 hz1 hz2 rfl (by decide) v 0 [] hs hown ad n c (spC ss) hx (by rw [spC_len, hl]) (sp_news hsp) (spC_one ss) (by unfold maxLen; omega) (by omega) hbase ?_
    intro v' w' h2 h3 _
    rw [Nat.zero_add, List.nil_append] at h2
    exact h v' w' h2 h3
theorem rspare_end {W w9 : World} {ao : Option Addr} {V n c c9 g9 i sn sc : Nat} {so : Option Addr} {k m x v : Int} {ss : List (Int × Int)} (hl : i = ss.length) (he : BX w9 V 31 #[.slice ao n c, .slice so sn sc, .int .i64 k, .int .i64 m])
    (ho : w9.ownsRow W.heap.size 47 2 (.slice (some ⟨g9, 0, none⟩) (i + 1) c9) (i + 1) (spC (ss ++ [(x, v)]))) (hb : Below W.heap.size W w9) :
    Hid (∃ ro rc, BX (w9.setCell ⟨V, 1, none⟩ (.slice (some ⟨g9, 0, none⟩) (i + 1) c9)) V 31 #[.slice ao n c, .slice ro (ss.length + 1) rc, .int .i64 k, .int .i64 m] ∧ (w9.setCell ⟨V, 1, none⟩ (.slice (some ⟨g9, 0, none⟩) (i + 1) c9)).ownsRow W.heap.size 47 2 (.slice ro (ss.length + 1) rc) (ss.length + 1) (spC (ss ++ [(x, v)])) ∧ ro ≠ none ∧ Turn (fun g => g = V) W (w9.setCell ⟨V, 1, none⟩ (.slice (some ⟨g9, 0, none⟩) (i + 1) c9))) := by
  subst hl
  refine Lib.hid ⟨some ⟨g9, 0, none⟩, c9, he.set 1 _, ?_, by simp, Turn.setCell (S := fun g => g = V) (Turn.of hb) (Or.inl rfl) _⟩
  refine fv_moved ho (fun g cs hg => Below.heap_setCell w9 ⟨V, 1, none⟩ _ g (fun e => ?_))
  have e' : g = V := e
  rw [e'] at hg
  unfold BX at he
  rw [he] at hg
  injection hg with hg
  injection hg with _ hg _
  exact absurd hg (by decide)
/-- The cells that Spare's last statement loads. -/
def Rs3 (V G : Nat) (sv : Value) (x v : Int) (W : World) : Prop := W.cell? ⟨V, 1, none⟩ = some sv ∧ W.cell? ⟨G, 0, none⟩ = some (.int .i64 x) ∧ W.cell? ⟨G, 1, none⟩ = some (.int .u64 v)

set_option maxHeartbeats 4000000 in
set_option maxRecDepth 100000 in
theorem rspare_out (ao : Option Addr) (n c : Nat) (so : Option Addr) (sn sc : Nat) (k m x v : Int) (ss : List (Int × Int)) (w : World) (h : SpAt w (.slice so sn sc) ss) (hno : cellB x = false ∨ (cellB x = true ∧ hasS ss x = true)) :
    Calls Try.prog 12 #[.agg #[.slice ao n c, .slice so sn sc, .int .i64 k, .int .i64 m], .agg #[.int .i64 x, .int .u64 v]] w fun e w' => e = .returned (.tuple #[.agg #[.slice ao n c, .slice so sn sc, .int .i64 k, .int .i64 m], .bool false]) ∧ Below w.heap.size w w' := by
  obtain ⟨W1, hW1, b1, b2, b3, hx, hsz⟩ := bx3 w 31 47 31 #[.slice ao n c, .slice so sn sc, .int .i64 k, .int .i64 m] #[.int .i64 x, .int .u64 v] #[.slice none 0 0, .slice none 0 0, .int .i64 0, .int .i64 0]
  obtain ⟨hl1, hl2, hl3⟩ := h.len
  have HX := Lib.hid hx
  have HW := Lib.hid hW1
  have HCE := Lib.hid (fun W => rcell14_any x W)
  have HS := Lib.hid (h.keep hx)
  have HL := Lib.hid hl1
  obtain ⟨g1, hg1⟩ : ∃ g, g = w.heap.size + 1 := ⟨_, rfl⟩
  obtain ⟨g2, hg2⟩ : ∃ g, g = w.heap.size + 2 := ⟨_, rfl⟩
  rw [← hg1] at b2
  rw [← hg2] at b3
  have HG := Lib.hid (show g1 = w.heap.size + 1 ∧ g2 = w.heap.size + 2 ∧ W1.heap.size = w.heap.size + 3 from ⟨hg1, hg2, hsz⟩)
  have hne : w.heap.size ≠ g2 := by omega
  have hne' : g2 ≠ w.heap.size := by omega
  have HB := Lib.hid (show _ ∧ _ ∧ _ from ⟨b1, b2, b3⟩)
  have s0 := b2.cell 0 rfl
  clear hx hW1 b1 b2 b3 hsz hg1 hg2 h hl1
  rcases hno with hno | ⟨hyes, hno⟩
  · rw [hno] at HCE
    clear hno
    go_enter Try.func12, Try.ntmps12
    go_upto_region 1 with fail
    rw [← HW.out]
    try simp only [World.size_alloc]
    rw [show w.heap.size + 1 + 1 = w.heap.size + 2 from rfl, ← HG.out.1, ← HG.out.2.1]
    clear HW
    go_wp2_with fail
    refine (HCE.out _).mono ?_
    rintro e w4 ⟨rfl, h4⟩
    rw [← h4]
    clear h4
    have HWB := HX
    have b3 := HB.out.2.2
    have b1 := HB.out.1
    have q0 := b1.cell 0 rfl
    have q1 := b1.cell 1 rfl
    have q2 := b1.cell 2 rfl
    have q3 := b1.cell 3 rfl
    have r0 := b3.cell 0 rfl
    have r1 := b3.cell 1 rfl
    have r2 := b3.cell 2 rfl
    have r3 := b3.cell 3 rfl
    have y0 := b3.frozen 0
    have y1 := b3.frozen 1
    have y2 := b3.frozen 2
    have y3 := b3.frozen 3
    clear b1 b3
    go_wp2
    refine bodyPost_ret (v := .tuple #[.agg #[.slice ao n c, .slice so sn sc, .int .i64 k, .int .i64 m], .bool false]) (by simp [results, Try.results12, go_sem, *]) rfl ?_
    refine ⟨rfl, ?_⟩
    have hgg : w.heap.size ≤ g2 := by have := HG.out; omega
    repeat' (first | (with_reducible exact HWB.out) | (with_reducible refine Below.setCell ?_ ?_ _) | exact Nat.le_refl _ | exact hgg)
  · rw [hyes] at HCE
    have HNO := Lib.hid hno
    clear hno hyes
    go_enter Try.func12, Try.ntmps12
    go_upto_region 1 with fail
    rw [← HW.out]
    try simp only [World.size_alloc]
    rw [show w.heap.size + 1 + 1 = w.heap.size + 2 from rfl, ← HG.out.1, ← HG.out.2.1]
    clear HW
    go_wp2_with fail
    refine (HCE.out _).mono ?_
    rintro e w4 ⟨rfl, h4⟩
    rw [← h4]
    clear h4
    go_wp2
    go_loopw [6] (fun s wr => ∃ i : Nat, s = .int .i64 i ∧ i ≤ sn ∧ Hid (Below W1.heap.size W1 wr) ∧ Hid (∀ j, j < i → (nts ss j).1 ≠ x)) (fun s _ => sn - (intOf s).toNat)
    case atStart => exact ⟨0, rfl, Nat.zero_le _, Lib.hid (Below.refl _ _), Lib.hid (fun j hj => absurd hj (Nat.not_lt_zero _))⟩
    case round =>
      obtain ⟨i, rfl, hi, hwr, hall⟩ := hrel
      clear s0
      have e1 := HB.out.1.below hwr.out
      have e2 := HB.out.2.1.below hwr.out
      have e3 := HB.out.2.2.below hwr.out
      have q0 := e1.cell 0 rfl
      have q1 := e1.cell 1 rfl
      have q2 := e1.cell 2 rfl
      have q3 := e1.cell 3 rfl
      have s0 := e2.cell 0 rfl
      have s1 := e2.cell 1 rfl
      have r0 := e3.cell 0 rfl
      have r1 := e3.cell 1 rfl
      have r2 := e3.cell 2 rfl
      have r3 := e3.cell 3 rfl
      have y0 := e3.frozen 0
      have y1 := e3.frozen 1
      have y2 := e3.frozen 2
      have y3 := e3.frozen 3
      clear e1 e2 e3
      by_cases hlt : i < sn
      · obtain ⟨g, o, rfl, h1, h2⟩ := (HS.out.keep hwr.out).get hlt
        have hlt' : (i : Int) < sn := by omega
        obtain ⟨z, hz⟩ : ∃ z, z = (nts ss i).1 := ⟨_, rfl⟩
        rw [← hz] at h1
        have HZ := Lib.hid hz
        clear hz h2
        by_cases he : z = x
        · subst he
          go_upto_region 6 with fail
          go_quiet (fail)
          have HWB := Lib.hid (below_drewN14 (HX.out.trans (hwr.out.mono HX.out.size)) nq)
          go_wp2
          refine bodyPost_ret (v := .tuple #[.agg #[.slice ao n c, .slice (some ⟨g, o, none⟩) sn sc, .int .i64 k, .int .i64 m], .bool false]) (by simp [results, Try.results12, go_sem, *]) rfl ?_
          refine ⟨rfl, ?_⟩
          have hgg : w.heap.size ≤ g2 := by have := HG.out; omega
          repeat' (first | (with_reducible exact HWB.out) | (with_reducible refine Below.setCell ?_ ?_ _) | exact Nat.le_refl _ | exact hgg)
        · skip
          have hez : (z == x) = false := beq_eq_false_iff_ne.2 he
          have HN : Hid (∀ j, j < i + 1 → (nts ss j).1 ≠ x) := Lib.hid (fun j hj => by
            by_cases e : j = i
            · subst e; rw [← HZ.out]; exact he
            · exact hall.out j (by omega))
          go_upto_region 6 with fail
          go_quiet (fail)
          go_wp2
          go_roundw
          case rel => exact ⟨i + 1, by go_num, by omega, Lib.hid (below_drewN14 hwr.out _), HN⟩
          case measure => simp [intOf]; omega
      · exfalso
        have h1 := hasS_none (ss := ss) (c := x) (fun j hj => hall.out j (by have := HL.out; omega))
        rw [HNO.out] at h1
        cases h1

set_option maxHeartbeats 8000000 in
set_option maxRecDepth 100000 in
theorem rspare_add (ao : Option Addr) (n c : Nat) (so : Option Addr) (sn sc : Nat) (k m x v : Int) (ss : List (Int × Int)) (w : World) (h : SpAt w (.slice so sn sc) ss) (hcell : cellB x = true) (hnew : hasS ss x = false) (hnil : NilN so sn sc) (hn : sn ≤ 1000000) :
    Calls Try.prog 12 #[.agg #[.slice ao n c, .slice so sn sc, .int .i64 k, .int .i64 m], .agg #[.int .i64 x, .int .u64 v]] w fun e w' => (∃ ro rn rc, e = .returned (.tuple #[.agg #[.slice ao n c, .slice ro rn rc, .int .i64 k, .int .i64 m], .bool true]) ∧ w'.ownsRow w.heap.size 47 2 (.slice ro rn rc) rn (spC (ss ++ [(x, v)])) ∧ rn = ss.length + 1 ∧ ro ≠ none) ∧ Below w.heap.size w w' := by
  obtain ⟨W1, hW1, b1, b2, b3, hx, hsz⟩ := bx3 w 31 47 31 #[.slice ao n c, .slice so sn sc, .int .i64 k, .int .i64 m] #[.int .i64 x, .int .u64 v] #[.slice none 0 0, .slice none 0 0, .int .i64 0, .int .i64 0]
  obtain ⟨hl1, hl2, hl3⟩ := h.len
  have HX := Lib.hid hx
  have HW := Lib.hid hW1
  have HCE := Lib.hid (fun W => rcell14_any x W)
  have HS := Lib.hid (h.keep hx)
  have HL := Lib.hid hl1
  obtain ⟨g1, hg1⟩ : ∃ g, g = w.heap.size + 1 := ⟨_, rfl⟩
  obtain ⟨g2, hg2⟩ : ∃ g, g = w.heap.size + 2 := ⟨_, rfl⟩
  rw [← hg1] at b2
  rw [← hg2] at b3
  have HG := Lib.hid (show g1 = w.heap.size + 1 ∧ g2 = w.heap.size + 2 ∧ W1.heap.size = w.heap.size + 3 from ⟨hg1, hg2, hsz⟩)
  have hne : w.heap.size ≠ g2 := by omega
  have hne' : g2 ≠ w.heap.size := by omega
  have HB := Lib.hid (show _ ∧ _ ∧ _ from ⟨b1, b2, b3⟩)
  have s0 := b2.cell 0 rfl
  have HNEW := Lib.hid hnew
  have HNIL := Lib.hid (show NilN so sn sc from hnil)
  rw [hcell] at HCE
  clear hx hW1 b1 b2 b3 hsz hg1 hg2 h hl1 hcell hnew hnil
  go_enter Try.func12, Try.ntmps12
  go_upto_region 1 with fail
  rw [← HW.out]
  try simp only [World.size_alloc]
  rw [show w.heap.size + 1 + 1 = w.heap.size + 2 from rfl, ← HG.out.1, ← HG.out.2.1]
  clear HW
  go_wp2_with fail
  refine (HCE.out _).mono ?_
  rintro e w4 ⟨rfl, h4⟩
  rw [← h4]
  clear h4
  go_wp2
  go_loopw [6] (fun s wr => ∃ i : Nat, s = .int .i64 i ∧ i ≤ sn ∧ Hid (Below W1.heap.size W1 wr) ∧ Hid (∀ j, j < i → (nts ss j).1 ≠ x)) (fun s _ => sn - (intOf s).toNat)
  case atStart => exact ⟨0, rfl, Nat.zero_le _, Lib.hid (Below.refl _ _), Lib.hid (fun j hj => absurd hj (Nat.not_lt_zero _))⟩
  case round =>
    obtain ⟨i, rfl, hi, hwr, hall⟩ := hrel
    clear s0
    have e1 := HB.out.1.below hwr.out
    have e2 := HB.out.2.1.below hwr.out
    have e3 := HB.out.2.2.below hwr.out
    have q0 := e1.cell 0 rfl
    have q1 := e1.cell 1 rfl
    have q2 := e1.cell 2 rfl
    have q3 := e1.cell 3 rfl
    have s0 := e2.cell 0 rfl
    have s1 := e2.cell 1 rfl
    have r0 := e3.cell 0 rfl
    have r1 := e3.cell 1 rfl
    have r2 := e3.cell 2 rfl
    have r3 := e3.cell 3 rfl
    have y0 := e3.frozen 0
    have y1 := e3.frozen 1
    have y2 := e3.frozen 2
    have y3 := e3.frozen 3
    clear e1 e2 e3
    by_cases hlt : i < sn
    · obtain ⟨g, o, rfl, h1, h2⟩ := (HS.out.keep hwr.out).get hlt
      have hlt' : (i : Int) < sn := by omega
      obtain ⟨z, hz⟩ : ∃ z, z = (nts ss i).1 := ⟨_, rfl⟩
      rw [← hz] at h1
      have HZ := Lib.hid hz
      clear hz h2
      by_cases he : z = x
      · exfalso
        subst he
        have h1 := hasS_some (ss := ss) (c := z) (i := i) (by have := HL.out; omega) HZ.out.symm
        rw [HNEW.out] at h1
        cases h1
      · skip
        have hez : (z == x) = false := beq_eq_false_iff_ne.2 he
        have HN : Hid (∀ j, j < i + 1 → (nts ss j).1 ≠ x) := Lib.hid (fun j hj => by
          by_cases e : j = i
          · subst e; rw [← HZ.out]; exact he
          · exact hall.out j (by omega))
        go_upto_region 6 with fail
        go_quiet (fail)
        go_wp2
        go_roundw
        case rel => exact ⟨i + 1, by go_num, by omega, Lib.hid (below_drewN14 hwr.out _), HN⟩
        case measure => simp [intOf]; omega
    · obtain rfl : i = sn := by omega
      clear hall hlt hi
      go_upto_region 8 with fail
      go_cut [] (fun wx => Hid (∃ ro rc, BX wx w.heap.size 31 #[.slice ao n c, .slice ro (ss.length + 1) rc, .int .i64 k, .int .i64 m] ∧ wx.ownsRow wr.heap.size 47 2 (.slice ro (ss.length + 1) rc) (ss.length + 1) (spC (ss ++ [(x, v)])) ∧ ro ≠ none ∧ Turn (fun g => g = w.heap.size) wr wx))
      case first =>
        have HRS := Lib.hid (fun W (hb : Below wr.heap.size wr W) => (show Rs3 w.heap.size g1 (.slice so i sc) x v W from ⟨((HB.out.1.below hwr.out).below hb).cell 1 rfl, ((HB.out.2.1.below hwr.out).below hb).cell 0 rfl, ((HB.out.2.1.below hwr.out).below hb).cell 1 rfl⟩))
        have HSP := Lib.hid (fun W (hb : Below wr.heap.size wr W) => (HS.out.keep hwr.out).keep hb)
        obtain ⟨i0, hi, hz0, hz1, hz2⟩ := info_parts fvInfoSp
        have HI := Lib.hid (show _ ∧ _ ∧ _ ∧ _ from ⟨hi, hz0, hz1, hz2⟩)
        have hone : ∀ u ∈ [Value.int .i64 x, Value.int .u64 v], u.oneCell' = true := by intro u hu; simp at hu; rcases hu with rfl | rfl <;> rfl
        have HONE := Lib.hid hone
        clear hi hz0 hz1 hz2 hone q0 q1 q2 q3 s0 s1 r0 r1 r2 r3 y0 y1 y2 y3
        refine wp_region_till (Rs3 w.heap.size g1 (.slice so i sc) x v) 8 (by rfl) ?_
        refine wpAnyS_take 1 (some 30) [8] rfl rfl (by kernel_rfl) (by kernel_rfl) (by kernel_rfl) (by kernel_rfl) (by kernel_rfl) (by kernel_rfl) (by kernel_rfl) (fun _ _ _ h => h) (by rfl) (by intro V ⟨y1, y2, y3⟩; go_simp; (first | done | (with_reducible rfl))) (HRS.out _ (Below.refl _ wr).drew) ?_
        simp only [Act.put, List.setIfInBounds_toArray, List.set_cons_zero, List.set_cons_succ]
        refine wpAnyS_take 2 (some 31) [8] rfl rfl (by kernel_rfl) (by kernel_rfl) (by kernel_rfl) (by kernel_rfl) (by kernel_rfl) (by kernel_rfl) (by kernel_rfl) (fun _ _ _ h => h) (by rfl) (by intro V ⟨y1, y2, y3⟩; go_simp; (first | done | (with_reducible rfl))) (HRS.out _ (Below.refl _ wr).drew) ?_
        simp only [Act.put, List.setIfInBounds_toArray, List.set_cons_zero, List.set_cons_succ]
        refine wpAnyS_take 4 (some 33) [8] rfl rfl (by kernel_rfl) (by kernel_rfl) (by kernel_rfl) (by kernel_rfl) (by kernel_rfl) (by kernel_rfl) (by kernel_rfl) (fun _ _ _ h => h) (by rfl) (by intro V ⟨y1, y2, y3⟩; go_simp; (first | done | (with_reducible rfl))) (HRS.out _ (Below.refl _ wr).drew) ?_
        simp only [Act.put, List.setIfInBounds_toArray, List.set_cons_zero, List.set_cons_succ]
        refine wpAnyS_ready [0, 5] (by kernel_rfl) (by simp) ?_
        refine AllReadyS.cons rfl (fun K hK => ?_) (AllReadyS.cons rfl (fun K hK => ?_) AllReadyS.nil)
        · go_simp
          have HB1 := Lib.hid (Below.alloc (Below.refl wr.heap.size wr).drew ((Below.refl wr.heap.size wr).drew).size (.cells #[] 47))
          have HO1 := Lib.hid (show (wr.drew.alloc (.cells #[] 47)).ownsRow wr.heap.size 47 2 (.slice (some ⟨wr.heap.size, 0, none⟩) 0 0) 0 [] from by
            have h9 := World.ownsRow_made (base := wr.heap.size) (e := 47) (size := 2) wr.drew #[] 0 ((Below.refl wr.heap.size wr).drew).size (Nat.zero_le _) rfl
            try rw [World.size_alloc] at h9
            exact h9)
          refine hK.out _ _ (fun _ => HRS.out _ HB1.out) ?_
          clear hK K
          refine wpAnyS_ready [3, 5] (by kernel_rfl) (by simp) ?_
          refine AllReadyS.cons rfl (fun K hK => ?_) (AllReadyS.cons rfl (fun K hK => ?_) AllReadyS.nil)
          · refine step_append_sp rfl (.tmp 29) (.tmp 31) rfl wr.heap.size (.slice (some ⟨wr.heap.size, 0, none⟩) 0 0) rfl HO1.out so i sc ss rfl (HSP.out _ HB1.out) HNIL.out hn (HB1.out).size ?_
            intro v2 w2 hown2 hgrow2
            have HB2 := Lib.hid (Below.grown HB1.out hgrow2 (HB1.out).size (fun j hj => (fv_block HO1.out hj).1))
            have HO2 := Lib.hid hown2
            clear hown2 hgrow2
            refine hK.out _ _ (fun _ => HRS.out _ HB2.out) ?_
            clear hK K
            refine wpAnyS_ready [5] (by kernel_rfl) (by simp) ?_
            refine AllReadyS.cons rfl (fun K hK => ?_) AllReadyS.nil
            go_simp
            have HB3 := Lib.hid (Below.alloc HB2.out (HB2.out).size (.cells #[.int .i64 x, .int .u64 v] 47))
            have HN3 := Lib.hid (show BX (w2.alloc (.cells #[.int .i64 x, .int .u64 v] 47)) (w2.heap.size) 47 #[.int .i64 x, .int .u64 v] from by
              have h9 := BX.new w2 47 #[.int .i64 x, .int .u64 v]
              try rw [World.size_alloc] at h9
              exact h9)
            have HO3 := Lib.hid (fv_stays HO2.out ((Below.refl _ _).alloc (Nat.le_refl _) (.cells #[.int .i64 x, .int .u64 v] 47)))
            refine hK.out _ _ (fun _ => HRS.out _ HB3.out) ?_
            clear hK K
            refine wpAnyS_ready [6] (by kernel_rfl) (by simp) ?_
            refine AllReadyS.cons rfl (fun K hK => ?_) AllReadyS.nil
            refine step_append_lies _ rfl (.tmp 32) (.tmp 34) 27 rfl wr.heap.size 47 i0 (.agg #[.int .i64 0, .int .u64 0]) 2 16 Try.underlying27 HI.out.1 HI.out.2.1 HI.out.2.2.1 HI.out.2.2.2 rfl (by decide) _ i (spC ss) rfl HO3.out ⟨_, 0, none⟩ 1 1 [.int .i64 x, .int .u64 v] rfl rfl (World.news_of_block (cs := #[.int .i64 x, .int .u64 v]) HN3.out) HONE.out (by omega) (by unfold maxLen; omega) (by omega) (HB3.out).size _ rfl ?_
            intro g9 c9 w9 hown9 hgrow9 hlie9 hlt9
            have hb9 : Below wr.heap.size wr w9 := Below.grown HB3.out hgrow9 (HB3.out).size (fun j hj => (fv_block HO3.out hj).1)
            have e1 := (HB.out.1.below hwr.out).below hb9
            have e2 := (HB.out.2.1.below hwr.out).below hb9
            have p1 := e1.cell 1 rfl
            have f1 := e1.frozen 1
            have HE1 := Lib.hid e1
            have HB9 := Lib.hid hb9
            have HO9 := Lib.hid (show w9.ownsRow wr.heap.size 47 2 (.slice (some ⟨g9, 0, none⟩) (i + 1) c9) (i + 1) (spC (ss ++ [(x, v)])) by rw [spC_app]; exact hown9)
            refine hK.out _ _ (fun _ => HRS.out _ hb9) ?_
            clear hK K hown9 hgrow9 hlie9 hlt9 e1 e2 hb9
            refine wpAnyS_ready [7] (by kernel_rfl) (by simp) ?_
            refine AllReadyS.cons rfl (fun K hK => ?_) AllReadyS.nil
            go_simp
            refine hK.out _ _ (fun _ => HRS.out _ HB9.out) ?_
            clear hK K
            refine wpAnyS_ready [8] (by kernel_rfl) (by simp) ?_
            refine AllReadyS.cons rfl (fun K hK => ?_) AllReadyS.nil
            go_simp
            refine hK.out _ _ (fun h => absurd h (by decide)) ?_
            clear hK K
            refine wpAnyS_done (by kernel_rfl) ?_ _
            go_wp2_with fail
            go_meet
            exact rspare_end HL.out HE1.out HO9.out HB9.out
          · go_simp
            have HB5 := Lib.hid (Below.alloc HB1.out (HB1.out).size (.cells #[.int .i64 x, .int .u64 v] 47))
            have HN5 := Lib.hid (show BX ((wr.drew.alloc (.cells #[] 47)).alloc (.cells #[.int .i64 x, .int .u64 v] 47)) (wr.heap.size + 1) 47 #[.int .i64 x, .int .u64 v] from by
              have h9 := BX.new (wr.drew.alloc (.cells #[] 47)) 47 #[.int .i64 x, .int .u64 v]
              try rw [World.size_alloc] at h9
              exact h9)
            have HO5 := Lib.hid (fv_stays HO1.out ((Below.refl _ _).alloc (Nat.le_refl _) (.cells #[.int .i64 x, .int .u64 v] 47)))
            refine hK.out _ _ (fun _ => HRS.out _ HB5.out) ?_
            clear hK K
            refine wpAnyS_ready [3] (by kernel_rfl) (by simp) ?_
            refine AllReadyS.cons rfl (fun K hK => ?_) AllReadyS.nil
            refine step_append_sp rfl (.tmp 29) (.tmp 31) rfl wr.heap.size (.slice (some ⟨wr.heap.size, 0, none⟩) 0 0) rfl HO5.out so i sc ss rfl (HSP.out _ HB5.out) HNIL.out hn (HB5.out).size ?_
            intro v6 w6 hown6 hgrow6
            have HB6 := Lib.hid (Below.grown HB5.out hgrow6 (HB5.out).size (fun j hj => (fv_block HO5.out hj).1))
            have HO6 := Lib.hid hown6
            have HN6 := Lib.hid (show BX w6 _ 47 #[.int .i64 x, .int .u64 v] from (hgrow6.block _ (lt_of_block HN5.out) (by simp [Value.ownBlock]; try omega)).trans HN5.out)
            clear hown6 hgrow6
            refine hK.out _ _ (fun _ => HRS.out _ HB6.out) ?_
            clear hK K
            refine wpAnyS_ready [6] (by kernel_rfl) (by simp) ?_
            refine AllReadyS.cons rfl (fun K hK => ?_) AllReadyS.nil
            refine step_append_lies _ rfl (.tmp 32) (.tmp 34) 27 rfl wr.heap.size 47 i0 (.agg #[.int .i64 0, .int .u64 0]) 2 16 Try.underlying27 HI.out.1 HI.out.2.1 HI.out.2.2.1 HI.out.2.2.2 rfl (by decide) _ i (spC ss) rfl HO6.out ⟨_, 0, none⟩ 1 1 [.int .i64 x, .int .u64 v] rfl rfl (World.news_of_block (cs := #[.int .i64 x, .int .u64 v]) HN6.out) HONE.out (by omega) (by unfold maxLen; omega) (by omega) (HB6.out).size _ rfl ?_
            intro g9 c9 w9 hown9 hgrow9 hlie9 hlt9
            have hb9 : Below wr.heap.size wr w9 := Below.grown HB6.out hgrow9 (HB6.out).size (fun j hj => (fv_block HO6.out hj).1)
            have e1 := (HB.out.1.below hwr.out).below hb9
            have e2 := (HB.out.2.1.below hwr.out).below hb9
            have p1 := e1.cell 1 rfl
            have f1 := e1.frozen 1
            have HE1 := Lib.hid e1
            have HB9 := Lib.hid hb9
            have HO9 := Lib.hid (show w9.ownsRow wr.heap.size 47 2 (.slice (some ⟨g9, 0, none⟩) (i + 1) c9) (i + 1) (spC (ss ++ [(x, v)])) by rw [spC_app]; exact hown9)
            refine hK.out _ _ (fun _ => HRS.out _ hb9) ?_
            clear hK K hown9 hgrow9 hlie9 hlt9 e1 e2 hb9
            refine wpAnyS_ready [7] (by kernel_rfl) (by simp) ?_
            refine AllReadyS.cons rfl (fun K hK => ?_) AllReadyS.nil
            go_simp
            refine hK.out _ _ (fun _ => HRS.out _ HB9.out) ?_
            clear hK K
            refine wpAnyS_ready [8] (by kernel_rfl) (by simp) ?_
            refine AllReadyS.cons rfl (fun K hK => ?_) AllReadyS.nil
            go_simp
            refine hK.out _ _ (fun h => absurd h (by decide)) ?_
            clear hK K
            refine wpAnyS_done (by kernel_rfl) ?_ _
            go_wp2_with fail
            go_meet
            exact rspare_end HL.out HE1.out HO9.out HB9.out
        · go_simp
          have HB8 := Lib.hid (Below.alloc (Below.refl wr.heap.size wr).drew ((Below.refl wr.heap.size wr).drew).size (.cells #[.int .i64 x, .int .u64 v] 47))
          have HN8 := Lib.hid (show BX (wr.drew.alloc (.cells #[.int .i64 x, .int .u64 v] 47)) (wr.heap.size) 47 #[.int .i64 x, .int .u64 v] from by
            have h9 := BX.new wr.drew 47 #[.int .i64 x, .int .u64 v]
            try rw [World.size_alloc] at h9
            exact h9)
          refine hK.out _ _ (fun _ => HRS.out _ HB8.out) ?_
          clear hK K
          refine wpAnyS_ready [0] (by kernel_rfl) (by simp) ?_
          refine AllReadyS.cons rfl (fun K hK => ?_) AllReadyS.nil
          go_simp
          have HB9 := Lib.hid (Below.alloc HB8.out (HB8.out).size (.cells #[] 47))
          have HO9 := Lib.hid (show ((wr.drew.alloc (.cells #[.int .i64 x, .int .u64 v] 47)).alloc (.cells #[] 47)).ownsRow wr.heap.size 47 2 (.slice (some ⟨wr.heap.size + 1, 0, none⟩) 0 0) 0 [] from by
            have h9 := World.ownsRow_made (base := wr.heap.size) (e := 47) (size := 2) (wr.drew.alloc (.cells #[.int .i64 x, .int .u64 v] 47)) #[] 0 (HB8.out).size (Nat.zero_le _) rfl
            try rw [World.size_alloc] at h9
            exact h9)
          have HN9 := Lib.hid (BX.below HN8.out ((Below.refl _ _).alloc (Nat.le_refl _) (.cells #[] 47)))
          refine hK.out _ _ (fun _ => HRS.out _ HB9.out) ?_
          clear hK K
          refine wpAnyS_ready [3] (by kernel_rfl) (by simp) ?_
          refine AllReadyS.cons rfl (fun K hK => ?_) AllReadyS.nil
          refine step_append_sp rfl (.tmp 29) (.tmp 31) rfl wr.heap.size (.slice (some ⟨wr.heap.size + 1, 0, none⟩) 0 0) rfl HO9.out so i sc ss rfl (HSP.out _ HB9.out) HNIL.out hn (HB9.out).size ?_
          intro v10 w10 hown10 hgrow10
          have HB10 := Lib.hid (Below.grown HB9.out hgrow10 (HB9.out).size (fun j hj => (fv_block HO9.out hj).1))
          have HO10 := Lib.hid hown10
          have HN10 := Lib.hid (show BX w10 _ 47 #[.int .i64 x, .int .u64 v] from (hgrow10.block _ (lt_of_block HN9.out) (by simp [Value.ownBlock]; try omega)).trans HN9.out)
          clear hown10 hgrow10
          refine hK.out _ _ (fun _ => HRS.out _ HB10.out) ?_
          clear hK K
          refine wpAnyS_ready [6] (by kernel_rfl) (by simp) ?_
          refine AllReadyS.cons rfl (fun K hK => ?_) AllReadyS.nil
          refine step_append_lies _ rfl (.tmp 32) (.tmp 34) 27 rfl wr.heap.size 47 i0 (.agg #[.int .i64 0, .int .u64 0]) 2 16 Try.underlying27 HI.out.1 HI.out.2.1 HI.out.2.2.1 HI.out.2.2.2 rfl (by decide) _ i (spC ss) rfl HO10.out ⟨_, 0, none⟩ 1 1 [.int .i64 x, .int .u64 v] rfl rfl (World.news_of_block (cs := #[.int .i64 x, .int .u64 v]) HN10.out) HONE.out (by omega) (by unfold maxLen; omega) (by omega) (HB10.out).size _ rfl ?_
          intro g9 c9 w9 hown9 hgrow9 hlie9 hlt9
          have hb9 : Below wr.heap.size wr w9 := Below.grown HB10.out hgrow9 (HB10.out).size (fun j hj => (fv_block HO10.out hj).1)
          have e1 := (HB.out.1.below hwr.out).below hb9
          have e2 := (HB.out.2.1.below hwr.out).below hb9
          have p1 := e1.cell 1 rfl
          have f1 := e1.frozen 1
          have HE1 := Lib.hid e1
          have HB9 := Lib.hid hb9
          have HO9 := Lib.hid (show w9.ownsRow wr.heap.size 47 2 (.slice (some ⟨g9, 0, none⟩) (i + 1) c9) (i + 1) (spC (ss ++ [(x, v)])) by rw [spC_app]; exact hown9)
          refine hK.out _ _ (fun _ => HRS.out _ hb9) ?_
          clear hK K hown9 hgrow9 hlie9 hlt9 e1 e2 hb9
          refine wpAnyS_ready [7] (by kernel_rfl) (by simp) ?_
          refine AllReadyS.cons rfl (fun K hK => ?_) AllReadyS.nil
          go_simp
          refine hK.out _ _ (fun _ => HRS.out _ HB9.out) ?_
          clear hK K
          refine wpAnyS_ready [8] (by kernel_rfl) (by simp) ?_
          refine AllReadyS.cons rfl (fun K hK => ?_) AllReadyS.nil
          go_simp
          refine hK.out _ _ (fun h => absurd h (by decide)) ?_
          clear hK K
          refine wpAnyS_done (by kernel_rfl) ?_ _
          go_wp2_with fail
          go_meet
          exact rspare_end HL.out HE1.out HO9.out HB9.out
      case rest =>
        obtain ⟨ro, rc, hbx, hsp, hro, ht⟩ := hcut.out
        clear q0 q1 q2 q3 s0 s1 r0 r1 r2 r3 y0 y1 y2 y3
        have q0 := hbx.cell 0 rfl
        have q1 := hbx.cell 1 rfl
        have q2 := hbx.cell 2 rfl
        have q3 := hbx.cell 3 rfl
        have e3 : BX wc g2 31 #[.slice none 0 0, .slice none 0 0, .int .i64 0, .int .i64 0] := (ht.block g2 (by have := HG.out; have := hwr.out.size; omega) hne').trans (HB.out.2.2.below hwr.out)
        have r0 := e3.cell 0 rfl
        have r1 := e3.cell 1 rfl
        have r2 := e3.cell 2 rfl
        have r3 := e3.cell 3 rfl
        have y0 := e3.frozen 0
        have y1 := e3.frozen 1
        have y2 := e3.frozen 2
        have y3 := e3.frozen 3
        have HE := Lib.hid (show _ ∧ _ ∧ _ ∧ _ from ⟨hsp, hro, ht, e3⟩)
        clear hbx hsp hro ht e3 hcut
        go_wp2
        refine bodyPost_ret (v := .tuple #[.agg #[.slice ao n c, .slice ro (ss.length + 1) rc, .int .i64 k, .int .i64 m], .bool true]) (by simp [results, Try.results12, go_sem, *]) rfl ?_
        obtain ⟨hsp, hro, ht, e3⟩ := HE.out
        have hb : Below w.heap.size w wc := (HX.out.trans (hwr.out.mono HX.out.size)).trans (ht.below (fun j e => by rw [show j = w.heap.size from e]; exact Nat.le_refl _) (Nat.le_trans HX.out.size hwr.out.size))
        have ht2 : Turn (fun j => j = g2) wc ((((wc.setCell ⟨g2, 0, none⟩ (.slice ao n c)).setCell ⟨g2, 1, none⟩ (.slice ro (ss.length + 1) rc)).setCell ⟨g2, 2, none⟩ (.int .i64 k)).setCell ⟨g2, 3, none⟩ (.int .i64 m)) := Turn.setCell (S := fun j => j = g2) (Turn.setCell (S := fun j => j = g2) (Turn.setCell (S := fun j => j = g2) (Turn.setCell (S := fun j => j = g2) (Turn.refl _ wc) (Or.inl rfl) _) (Or.inl rfl) _) (Or.inl rfl) _) (Or.inl rfl) _
        refine ⟨⟨ro, _, rc, rfl, ?_, rfl, hro⟩, hb.trans (ht2.below (fun j e => by rw [show j = g2 from e]; have := HG.out; omega) hb.size)⟩
        refine fv_base (B := wr.heap.size) (fv_moved hsp (fun g cs hg => ht2.block g (lt_of_block hg) (fun e => ?_))) (Nat.le_trans HX.out.size hwr.out.size)
        have e' : g = g2 := e
        rw [e'] at hg
        unfold BX at e3
        rw [e3] at hg
        injection hg with hg
        injection hg with _ hg _
        exact absurd hg (by decide)
end Go.Proofs.Ytefmnfplipdnmaa
