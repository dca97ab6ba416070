/- whole.Pairs' question of flaws: are there any but that nodes are thin? Condition: there are none. An append of pairs, behind a row of the call's own: of another such row, nil or not; of a row that is read. What it leaves. Condition: there are few. whole.Pairs of a tree as it should be: what all its leaves have, one behind the other. Condition: few nodes, whose sizes fit and whose numbers are numbers. The chapter's example (bowerlaw15.lives): one empty leaf is a whole tree that has nothing; nothing is no tree. No condition. -/
import Derived.Test.YtgaacoeggikbpaaPq8
import Derived.Deep.DeepCutAuto
import Derived.Test.YtgaacoeggikbpaaPqa
import Derived.Test.YtgaacoeggikbpaaPq1
import Derived.Laws.AppendOwnNone
import Derived.Test.YtgaacoeggikbpaaPqb
import Derived.Deep.RegionHeldLaw
namespace Go.Proofs.Ytgaacoeggikbpaa
open Go.RowKit

set_option maxHeartbeats 1000000 in
set_option maxRecDepth 100000 in
theorem thin1_any (z : Int) (w : World) : Calls Try.prog 14 #[.agg #[.int .i64 8, .int .i64 z]] w fun e w' => e = .returned (.bool false) ∧ Below w.heap.size w w' := by
  have hx := boxed_below w (.cells #[.int .i64 8, .int .i64 z] 47)
  have n1 := BX.new w 47 #[.int .i64 8, .int .i64 z]
  obtain ⟨G, hG⟩ : ∃ g, g = w.heap.size := ⟨_, rfl⟩
  rw [← hG] at n1
  obtain ⟨W1, hW1⟩ : ∃ W, W = w.alloc (.cells #[.int .i64 8, .int .i64 z] 47) := ⟨_, rfl⟩
  rw [← hW1] at hx n1
  have k0 := n1.cell 0 rfl
  have HW := Lib.hid (show G = w.heap.size ∧ _ from ⟨hG, hW1⟩)
  have HX := Lib.hid hx
  clear hx n1 hG hW1
  go_enter Try.func14, Try.ntmps14
  go_upto_region 1 with fail
  rw [← HW.out.1, ← HW.out.2]
  clear HW
  go_wp2
  go_ret
  exact ⟨rfl, HX.out⟩
set_option maxHeartbeats 4000000 in
set_option maxRecDepth 100000 in
theorem index8_any (B : Nat) (v : Value) (fs : List (Int × Int)) (w : World) (h : FlV w B v fs) (h8 : ∀ x ∈ fs, x.1 = 8) :
    Calls Try.prog 28 #[v, .func (.func 14) #[] #[]] w fun e w' => e = .returned (.int .i64 (-1)) ∧ Below w.heap.size w w' := by
  rcases h.form with ⟨rfl, rfl⟩ | ⟨g, c, rfl, hr⟩
  · clear h h8
    go_enter Try.func28, Try.ntmps28
    go_wp2
    go_loopw [8] (fun s wr => s = .int .i64 0 ∧ Hid (Below w.heap.size w wr)) (fun _ _ => 0)
    case atStart => exact ⟨rfl, Lib.hid (Below.refl _ _)⟩
    case round =>
      obtain ⟨rfl, HS⟩ := hrel
      go_wp2
      go_ret
      exact ⟨rfl, HS.out⟩
  · obtain ⟨n, hn⟩ : ∃ n, n = fs.length := ⟨_, rfl⟩
    rw [← hn] at hr ⊢
    have HR := Lib.hid hr
    have hcn : n ≤ c := hr.2.2.1
    have hcb : c ≤ 9223372036854775807 := by have h2 := hr.2.2.2.1; unfold maxLen at h2; omega
    have H8 := Lib.hid (show ∀ j, j < n → (nfl fs j).1 = 8 from fun j hj => h8 _ (nfl_mem (by omega)))
    have HN := Lib.hid hn
    clear h h8 hr hn
    go_enter Try.func28, Try.ntmps28
    go_wp2
    go_loopw [8] (fun s wr => ∃ i : Nat, s = .int .i64 i ∧ i ≤ n ∧ Hid (Below w.heap.size w wr)) (fun s _ => n - (intOf s).toNat)
    case atStart => exact ⟨0, rfl, Nat.zero_le _, Lib.hid (Below.refl _ _)⟩
    case round =>
      obtain ⟨i, rfl, hi, HS⟩ := hrel
      obtain ⟨wx, hwx⟩ : ∃ W : World, W = wr := ⟨_, rfl⟩
      rw [← hwx] at HS ⊢
      clear hwx
      by_cases hlt : i < n
      · have hlt' : (i : Int) < n := by omega
        obtain ⟨z, q0, q1⟩ : ∃ z : Int, wx.cell? ⟨g, i * 2, none⟩ = some (.int .i64 8) ∧ wx.cell? ⟨g, i * 2 + 1, none⟩ = some (.int .i64 z) := by
          have hr2 := HR.out.block (HS.out.block g HR.out.lt)
          obtain ⟨h1, h2, _⟩ := hr2.at_ (j := i) hlt
          rw [H8.out i hlt] at h1
          exact ⟨_, h1, h2⟩
        have HC := Lib.hid (thin1_any z wx)
        go_wp2_with fail
        refine HC.out.mono ?_
        rintro e w4 ⟨rfl, hb4⟩
        have HB4 := Lib.hid (HS.out.trans (hb4.mono HS.out.size))
        clear hb4 q0 q1
        go_wp2
        go_roundw
        case rel => exact ⟨i + 1, by go_num, by omega, HB4⟩
        case measure => simp [intOf]; omega
      · obtain rfl : i = n := by omega
        go_wp2
        go_ret
        exact ⟨rfl, HS.out⟩
set_option maxHeartbeats 1000000 in
theorem contains8_any (B : Nat) (v : Value) (fs : List (Int × Int)) (w : World) (h : FlV w B v fs) (h8 : ∀ x ∈ fs, x.1 = 8) :
    Calls Try.prog 13 #[v, .func (.func 14) #[] #[]] w fun e w' => e = .returned (.bool false) ∧ Below w.heap.size w w' := by
  have HC := Lib.hid (index8_any B v fs w h h8)
  clear h h8
  go_enter Try.func13, Try.ntmps13
  go_wp2_with fail
  refine HC.out.mono ?_
  rintro e w4 ⟨rfl, hb4⟩
  have HB4 := Lib.hid hb4
  clear hb4
  go_wp2
  go_ret
  exact ⟨rfl, HB4.out⟩
end Go.Proofs.Ytgaacoeggikbpaa

namespace Go.Proofs.Ytgaacoeggikbpaa
open Go.RowKit

/-- What lay below B stays, and all that is no row of pairs. -/
structure GrowP (B : Nat) (A C : World) : Prop where
  b : Below B A C
  size : A.heap.size ≤ C.heap.size
  o : ∀ (k : Nat) (x : Obj), A.heap[k]? = some x → (k < B ∨ ∀ cs, x ≠ Obj.cells cs 32 (0, 0)) → C.heap[k]? = some x
theorem GrowP.refl (B : Nat) (A : World) : GrowP B A A := ⟨Below.refl _ _, Nat.le_refl _, fun _ _ h _ => h⟩
theorem OwnP.block {w : World} {B : Nat} {v : Value} {ps : List (ByteArray × Int)} (h : OwnP w B v ps) {k : Nat} (hk : v.ownBlock = some k) : B ≤ k ∧ ∃ cs, w.heap[k]? = some (Obj.cells cs 32 (0, 0)) := by
  rcases h.2 with ⟨rfl, _⟩ | ⟨g, cap, cur, rfl, hbg, hg, _⟩
  · cases hk
  · cases hk
    exact ⟨hbg, cur, hg⟩
theorem GrowP.of {w w' : World} {B : Nat} {v : Value} {ps : List (ByteArray × Int)} (h : OwnP w B v ps) (hB : B ≤ w.heap.size) (hg : w.grownBy w' v.ownBlock) : GrowP B w w' :=
  ⟨(Below.refl _ w).grown hg hB (fun _ e => (h.block e).1), hg.size, fun k x hk ho => (hg.block k (Array.getElem?_eq_some_iff.1 hk).1 (fun e => by
    obtain ⟨h1, cs, h2⟩ := h.block e.symm
    rcases ho with ho | ho
    · omega
    · rw [hk] at h2
      cases h2
      exact ho cs rfl)).trans hk⟩
theorem pcells_ones (ps : List (ByteArray × Int)) : ∀ u ∈ pcells ps, u.oneCell' = true := by
  intro u hu
  obtain ⟨p, _, hu⟩ := List.mem_flatMap.1 hu
  simp only [List.mem_cons, List.not_mem_nil, or_false] at hu
  rcases hu with rfl | rfl <;> rfl
theorem OwnP.of_app {w' : World} {B n m : Nat} {v' : Value} {ps qs : List (ByteArray × Int)} (hn : n = ps.length) (hm : m = qs.length) (h : w'.ownsRow B 32 2 v' (n + m) (pcells ps ++ pcells qs)) : OwnP w' B v' (ps ++ qs) := by
  subst hn hm
  unfold OwnP
  rw [List.length_append, pcells_append]
  exact h
theorem wpList_append_PP {w : World} {ops : Array Oper} {rest : List Oper} {o : Oper} {a : Act} {Q : Exit → Act → World → Prop} (hgd : o.guard = none) (s x : Operand)
    (ho : o.op = .call { callee := .builtin .append, args := #[s, x], argTypes := #[26, 26] }) (B B2 : Nat) (v u : Value) (ps qs : List (ByteArray × Int)) (hs : a.eval s = v) (hx : a.eval x = u)
    (hv : OwnP w B v ps) (hu : OwnP w B2 u qs) (hmax : ps.length + qs.length ≤ 1000000000000) (hB : B ≤ w.heap.size)
    (h : ∀ v' w', OwnP w' B v' (ps ++ qs) → GrowP B w w' → wpList Try.prog ops Q rest (a.put o.dst v') w') : wpList Try.prog ops Q (o :: rest) a w := by
  obtain ⟨i0, hi, hz0, hz1, hz2⟩ := info_parts infoPair
  have hu0 := hu
  rcases hu.2 with ⟨rfl, hz⟩ | ⟨g, c, cur, rfl, _⟩
  · obtain rfl : qs = [] := List.eq_nil_of_length_eq_zero hz
    refine wpList_append_own_none (o := o) hgd s x 26 ho B 32 i0 2 Try.underlying26 hi v _ _ hs hv hx ?_
    exact h v w (by rw [List.append_nil]; exact hv) (GrowP.refl _ _)
  · refine wpList_append_own (o := o) w hgd s x 26 ho B 32 i0 (.agg #[.string ⟨#[]⟩, .int .u64 0]) 2 24 Try.underlying26 hi hz0 hz1 hz2 rfl (by decide) v _ _ hs hv ⟨g, 0, none⟩ qs.length c (pcells qs) hx (pcells_len qs) (World.ownsRow.cells hu0 rfl) (pcells_ones qs) (by unfold maxLen; omega) (by omega) hB ?_
    intro v' w' hown hgrow _
    exact h v' w' (OwnP.of_app rfl rfl hown) (GrowP.of hv hB hgrow)
theorem RdP.cells9 {w : World} {g o n c : Nat} {ps : List (ByteArray × Int)} (h : RdP w (.slice (some ⟨g, o, none⟩) n c) ps) : ∀ j v, (pcells ps)[j]? = some v → w.cell? ((⟨g, o, none⟩ : Addr).add j) = some v := by
  intro j v hj
  have hlt := (List.getElem?_eq_some_iff.1 hj).1
  rw [pcells_len] at hlt
  have hln := h.len
  obtain ⟨g', o', e, hc⟩ := h.at_ (j / 2) (by omega)
  injection e with e
  injection e with e1 e2 _
  subst e1 e2
  have h2 := pcells_get ps (j / 2) (by omega)
  rw [show (⟨g, o, none⟩ : Addr).add j = ⟨g, o + j, none⟩ by simp [Addr.add]]
  rcases Nat.mod_two_eq_zero_or_one j with hm | hm
  · rw [show j / 2 * 2 = j by omega] at h2
    rw [h2.1] at hj
    cases hj
    have := (hc (j / 2) (by omega)).1
    rw [show o + j / 2 * 2 = o + j by omega] at this
    exact this
  · rw [show j / 2 * 2 + 1 = j by omega] at h2
    rw [h2.2] at hj
    cases hj
    have := (hc (j / 2) (by omega)).2
    rw [show o + j / 2 * 2 + 1 = o + j by omega] at this
    exact this
theorem wpList_append_PR {w : World} {ops : Array Oper} {rest : List Oper} {o : Oper} {a : Act} {Q : Exit → Act → World → Prop} (hgd : o.guard = none) (s x : Operand)
    (ho : o.op = .call { callee := .builtin .append, args := #[s, x], argTypes := #[26, 26] }) (B : Nat) (v : Value) (g q m c : Nat) (ps qs : List (ByteArray × Int)) (hs : a.eval s = v) (hx : a.eval x = .slice (some ⟨g, q, none⟩) m c)
    (hv : OwnP w B v ps) (hu : RdP w (.slice (some ⟨g, q, none⟩) m c) qs) (hmax : ps.length + qs.length ≤ 1000000000000) (hB : B ≤ w.heap.size)
    (h : ∀ v' w', OwnP w' B v' (ps ++ qs) → GrowP B w w' → wpList Try.prog ops Q rest (a.put o.dst v') w') : wpList Try.prog ops Q (o :: rest) a w := by
  obtain ⟨i0, hi, hz0, hz1, hz2⟩ := info_parts infoPair
  have hm := hu.len.1
  refine wpList_append_own (o := o) w hgd s x 26 ho B 32 i0 (.agg #[.string ⟨#[]⟩, .int .u64 0]) 2 24 Try.underlying26 hi hz0 hz1 hz2 rfl (by decide) v _ _ hs hv ⟨g, q, none⟩ m c (pcells qs) hx (by rw [pcells_len, hm]) hu.cells9 (pcells_ones qs) (by unfold maxLen; omega) (by omega) hB ?_
  intro v' w' hown hgrow _
  exact h v' w' (OwnP.of_app rfl hm.symm hown) (GrowP.of hv hB hgrow)
theorem step_append_PR {ops : Array Oper} {o : Oper} {a : Act} {w : World} {K : Act → World → Prop} {Q : Exit → Act → World → Prop} {E : Prop} (hgd : o.guard = none) (s x : Operand)
    (hop : o.op = .call { callee := .builtin .append, args := #[s, x], argTypes := #[26, 26] }) (B : Nat) (v : Value) (g q m c : Nat) (ps qs : List (ByteArray × Int)) (hs : a.eval s = v) (hx : a.eval x = .slice (some ⟨g, q, none⟩) m c)
    (hv : OwnP w B v ps) (hu : RdP w (.slice (some ⟨g, q, none⟩) m c) qs) (hmax : ps.length + qs.length ≤ 1000000000000) (hB : B ≤ w.heap.size)
    (h : ∀ v' w', OwnP w' B v' (ps ++ qs) → GrowP B w w' → K (a.put o.dst v') w') :
    if Region.wanted o (yielded ops a.tmps) = true then Oper.wp Try.prog o a w K Q else E := by
  have hw : Region.wanted o (yielded ops a.tmps) = true := by simp [Region.wanted, hgd]
  rw [if_pos hw]
  obtain ⟨i0, hi, hz0, hz1, hz2⟩ := info_parts infoPair
  have hm := hu.len.1
  obtain ⟨v', w', hrun, r1, r2, _⟩ := run_append_own (P := Try.prog) (w := w) B 26 o.type 32 i0 (.agg #[.string ⟨#[]⟩, .int .u64 0]) 2 24 Try.underlying26 hi hz0 hz1 hz2 rfl (by decide) v _ _ hv ⟨g, q, none⟩ m c (pcells qs) (by rw [pcells_len, hm]) hu.cells9 (pcells_ones qs) (by unfold maxLen; omega) (by omega) hB
  unfold Oper.wp
  simp [execOp, hop, resolve, invoke, builtin, hs, hx, hrun, Result.andThen]
  exact h v' w' (OwnP.of_app rfl hm.symm r1) (GrowP.of hv hB r2)
end Go.Proofs.Ytgaacoeggikbpaa

namespace Go.Proofs.Ytgaacoeggikbpaa
open Go.RowKit Go.Maps Go.Shelf
attribute [local go_sem] Oper.semAt_some

/-- The cells of a struct's value. -/
def aggB : Value → Array Value
  | .agg a => a
  | _ => #[]
/-- Between two leaves. -/
structure PI (w A : World) (G4 B0 : Nat) (l : List Kn) : Prop where
  p : ∃ v, BX A G4 26 #[v] ∧ OwnP A B0 v (allP l)
  bl : Below w.heap.size w A
theorem OwnP.low {A C : World} {B B' : Nat} {v : Value} {ps : List (ByteArray × Int)} (h : OwnP A B v ps) (hl : LowT 32 B' A C) : OwnP C B v ps := by
  refine ⟨h.1, ?_⟩
  rcases h.2 with hn | ⟨g, cap, cur, rfl, hbg, hg, rest⟩
  · exact Or.inl hn
  · exact Or.inr ⟨g, cap, cur, rfl, hbg, hl.t g cur hg, rest⟩
theorem PI.low {w A C : World} {G4 B0 : Nat} {l : List Kn} (h : PI w A G4 B0 l) (hl : LowT 32 B0 A C) (h4 : G4 < B0) (hw : w.heap.size ≤ B0) : PI w C G4 B0 l := by
  obtain ⟨⟨v, h1, h2⟩, h3⟩ := h
  exact ⟨⟨v, (hl.b.block G4 h4).trans h1, h2.low hl⟩, h3.trans (hl.b.mono hw)⟩
theorem allP_len {l : List Kn} (h : ∀ k ∈ l, k.n.ks.length ≤ 80) : (allP l).length ≤ 80 * l.length := by
  induction l with
  | nil => exact Nat.le_refl _
  | cons k l ih =>
    have e : allP (k :: l) = prs k.n.ks k.n.vs ++ allP l := by simp [allP]
    rw [e, List.length_append, List.length_cons, prs_min]
    have h1 := ih (fun x hx => h x (List.mem_cons_of_mem _ hx))
    have h2 := h k (List.mem_cons_self ..)
    omega
theorem lfs_mem {w0 : World} {ks : List Kn} {l : List (LfV w0 ks)} {k : Kn} (h : k ∈ lfs l) : k ∈ ks := by
  unfold lfs at h
  obtain ⟨x, _, rfl⟩ := List.mem_map.1 h
  exact x.2.2
theorem lfs_snoc {w0 : World} {ks : List Kn} (l : List (LfV w0 ks)) (x : LfV w0 ks) : lfs (l ++ [x]) = lfs l ++ [x.1.1] := by
  unfold lfs
  rw [List.map_append]
  rfl
theorem turn_1 (W : World) (g : Nat) (v : Value) : Turn (fun j => j = g) W (W.setCell ⟨g, 0, none⟩ v) := Turn.setCell (S := fun j => j = g) (Turn.refl _ W) (Or.inl rfl) v
theorem opIn_append_PP {F : Fence} {n : Nat} {w : World} {o : Oper} {a : Act} {K : Act → World → Prop} {Q : Exit → Act → World → Prop} (s x : Operand)
    (hop : o.op = .call { callee := .builtin .append, args := #[s, x], argTypes := #[26, 26] }) (B B2 : Nat) (v u : Value) (ps qs : List (ByteArray × Int)) (hs : a.eval s = v) (hx : a.eval x = u)
    (hv : OwnP w B v ps) (hu : OwnP w B2 u qs) (hmax : ps.length + qs.length ≤ 1000000000000) (hB : B ≤ w.heap.size)
    (h : ∀ v' w', OwnP w' B v' (ps ++ qs) → GrowP B w w' → K (a.put o.dst v') w') : o.wpIn F n Try.prog a w K Q := by
  obtain ⟨i0, hi, hz0, hz1, hz2⟩ := info_parts infoPair
  have hu0 := hu
  have key : ∃ v' w', (Builtin.append_ #[26, 26] o.type #[v, u]).run Try.prog w = .ok v' w' ∧ OwnP w' B v' (ps ++ qs) ∧ GrowP B w w' := by
    rcases hu.2 with ⟨rfl, hz⟩ | ⟨g, c, cur, rfl, _⟩
    · obtain rfl : qs = [] := List.eq_nil_of_length_eq_zero hz
      exact ⟨v, w, run_append_owned_none w B 26 o.type 32 i0 2 Try.underlying26 hi v _ _ hv, by rw [List.append_nil]; exact hv, GrowP.refl _ _⟩
    · obtain ⟨v', w', hrun, r1, r2, _⟩ := run_append_own (P := Try.prog) w B 26 o.type 32 i0 (.agg #[.string ⟨#[]⟩, .int .u64 0]) 2 24 Try.underlying26 hi hz0 hz1 hz2 rfl (by decide) v _ _ hv ⟨g, 0, none⟩ qs.length c (pcells qs) (pcells_len qs) (World.ownsRow.cells hu0 rfl) (pcells_ones qs) (by unfold maxLen; omega) (by omega) hB
      exact ⟨v', w', hrun, OwnP.of_app rfl rfl r1, GrowP.of hv hB r2⟩
  obtain ⟨v', w', hrun, r1, r2⟩ := key
  unfold Oper.wpIn
  refine ⟨?_, ?_⟩
  · simp [Oper.about, hop, resolve, Target.leads, Sem.run_pure]
  · rw [Oper.semAt_plain F _ _ (by rw [hop]; intro c hc'; cases hc')]
    simp [execOp, hop, resolve, invoke, builtin, hs, hx, hrun, Result.andThen]
    exact h v' w' r1 r2
theorem body_end {w W5 : World} {G4 : Nat} {w0 : World} {ks : List Kn} {l : List (LfV w0 ks)} (V wb w6 : World) (vp v6 : Value) (pa pk : List (ByteArray × Int)) (hx6 : BX w6 G4 26 #[vp]) (hg : OwnP w6 W5.heap.size v6 (pa ++ pk) ∧ GrowP W5.heap.size wb w6) (hb : Below V.heap.size V wb) (hbl : Below w.heap.size w V) (hlt : G4 < W5.heap.size ∧ w.heap.size ≤ W5.heap.size ∧ w.heap.size ≤ G4 ∧ True) (hpa : allP (lfs l) = pa ++ pk) :
    KeepsFrom W5.heap.size V (w6.setCell ⟨G4, 0, none⟩ v6) ∧ KeptT G4 32 V (w6.setCell ⟨G4, 0, none⟩ v6) ∧ PI w (w6.setCell ⟨G4, 0, none⟩ v6) G4 W5.heap.size (lfs l) := by
  have ht := turn_1 w6 G4 v6
  have hx7 : BX (w6.setCell ⟨G4, 0, none⟩ v6) G4 26 #[v6] := bx_put hx6 0 v6
  have hsz := hg.2.size
  have keep : ∀ (k : Nat) (o : Obj), V.heap[k]? = some o → (k < W5.heap.size ∨ ∀ cs, o ≠ Obj.cells cs 32 (0, 0)) → k ≠ G4 → (w6.setCell ⟨G4, 0, none⟩ v6).heap[k]? = some o := fun k o hk ho hne => by
    have h1 := (hb.block k (Array.getElem?_eq_some_iff.1 hk).1).trans hk
    have h2 := hg.2.o k o h1 ho
    exact (ht.block k (Array.getElem?_eq_some_iff.1 h2).1 hne).trans h2
  have hno : ∀ (k : Nat) (o : Obj), V.heap[k]? = some o → o.isCells = false → k ≠ G4 := fun k o hk ho e => by
    subst e
    have h1 := (hb.block k (Array.getElem?_eq_some_iff.1 hk).1).trans hk
    have h2 := hg.2.o k o h1 (Or.inl hlt.1)
    have h3 : w6.heap[k]? = _ := hx6
    rw [h2] at h3
    cases h3
    cases ho
  refine ⟨⟨?_, fun k o _ hk ho => keep k o hk (Or.inr (fun cs e => by rw [e] at ho; cases ho)) (hno k o hk ho)⟩, ⟨?_, fun k cs t hne htt hk => keep k _ hk (Or.inr (fun cs2 e => by cases e; exact htt rfl)) hne, fun k o hk ho => keep k o hk (Or.inr (fun cs e => by rw [e] at ho; cases ho)) (hno k o hk (Obj.not_cells_of_walk ho))⟩, ⟨⟨v6, hx7, ?_⟩, ?_⟩⟩
  · have := ht.size; have := hb.size; omega
  · have := ht.size; have := hb.size; omega
  · rw [hpa]
    exact hg.1.low (B' := 0) ⟨ht.below (fun _ _ => Nat.zero_le _) (Nat.zero_le _), fun k cs hk => (ht.block k (Array.getElem?_eq_some_iff.1 hk).1 (fun e => by
      have h3 : w6.heap[G4]? = _ := hx6
      rw [show k = G4 from e, h3] at hk
      injection hk with hk
      injection hk with _ hk _
      cases hk)).trans hk⟩
  · have b1 := hbl.trans (hb.mono hbl.size)
    have b2 := b1.trans (hg.2.b.mono hlt.2.1)
    exact b2.trans (ht.below (fun j e => by rw [show j = G4 from e]; exact hlt.2.2.1) b2.size)
set_option maxHeartbeats 8000000 in
set_option maxRecDepth 100000 in
theorem pairs15_any (w0 : World) (ao : Option Addr) (n c : Nat) (ks : List Kn) (fan : Int) (w : World) (hb0 : Below w0.heap.size w0 w) (h : KsAt (PV w0) w (.slice ao n c) ks) (hn : n ≤ 1000000) (hfit : ∀ j, j < n → FitN (kAt ks j).n ∧ WfK (kAt ks j)) (hW : WholeP fan ks) :
    Calls Try.prog 7 #[.slice ao n c] w fun e w' => (∃ v l, e = .returned (.tuple #[v, .bool true]) ∧ OwnP w' w.heap.size v (allP l) ∧ Has ks l) ∧ Below w.heap.size w w' := by
  have hl := h.len
  have HL := Lib.hid hl.1
  have HT := Lib.hid hW.tree
  have HFL := Lib.hid (flaws_all w0 ao n c ks 64 w hb0 h hn hfit)
  have HK := Lib.hid h
  have H0 := Lib.hid hb0
  have HFIT := Lib.hid hfit
  have HN := Lib.hid hn
  have hl2 := hl.2
  clear h hb0 hfit hl hW hn
  refine (callsIn_wide (n := 3)).1 ?_
  refine callsIn_of_wp_marks Try.func7 rfl trivial ?_ rfl
  simp only [Try.ntmps7, List.size_toArray, List.length_cons, List.length_nil, Nat.reduceAdd, Nat.reduceSub, Array.replicate_succ, Array.replicate_zero, List.push_toArray, List.append_toArray, List.nil_append, List.cons_append]
  refine wpIn_wide.2 ?_
  go_wp2_with fail
  refine HFL.out.mono ?_
  rintro e w1 ⟨⟨v1, fs, rfl, hfv, -, hfe⟩, hb1⟩
  have HC8 := Lib.hid (contains8_any w.heap.size v1 fs w1 hfv ((hfe (by decide)).1 HT.out.nd HT.out.tr))
  have HB1 := Lib.hid hb1
  clear hfv hfe hb1
  go_wp2_with fail
  refine HC8.out.mono ?_
  rintro e w2 ⟨rfl, hb2⟩
  have bw2 := HB1.out.trans (hb2.mono HB1.out.size)
  have b3 := boxed_below w2 (.cells #[.slice none 0 0] 26)
  have x3 := BX.new w2 26 #[.slice none 0 0]
  obtain ⟨G4, hG4⟩ : ∃ g, g = w2.heap.size := ⟨_, rfl⟩
  obtain ⟨W3, hW3⟩ : ∃ W, W = w2.alloc (.cells #[.slice none 0 0] 26) := ⟨_, rfl⟩
  have s3 : W3.heap.size = w2.heap.size + 1 := by rw [hW3]; exact World.size_alloc _ _
  rw [← hW3] at b3 x3
  rw [← hG4] at x3
  have bw3 := bw2.trans (b3.mono bw2.size)
  have hok := HT.out.nd
  have HC1 := Lib.hid (treeOf_any w0 ao n c ks W3 (H0.out.trans (bw3.mono H0.out.size)) (HK.out.keep bw3) HN.out (fun j hj => ⟨(HFIT.out j hj).1.cs, (HFIT.out j hj).2⟩) (fun i hi => hok.one (by rw [← HL.out]; exact hi)))
  have HX3 := Lib.hid (show _ ∧ _ ∧ _ from ⟨x3, bw3, s3⟩)
  have HW3 := Lib.hid (show G4 = w2.heap.size ∧ _ from ⟨hG4, hW3⟩)
  have bw2s := bw2.size
  clear hb2 bw2 b3 x3 hG4 hW3 s3 bw3 hok HC8 HFL
  go_wp2_with fail
  rw [← HW3.out.1, ← HW3.out.2]
  refine HC1.out.mono ?_
  rintro e w4 ⟨⟨bn, bp, N, rfl, hnm, him⟩, hb4⟩
  have b5 := boxed_below w4 (.cells #[.map (some bn), .map (some bp)] 55)
  have x5 := BX.new w4 55 #[.map (some bn), .map (some bp)]
  obtain ⟨G7, hG7⟩ : ∃ g, g = w4.heap.size := ⟨_, rfl⟩
  obtain ⟨W5, hW5⟩ : ∃ W, W = w4.alloc (.cells #[.map (some bn), .map (some bp)] 55) := ⟨_, rfl⟩
  have s5 : W5.heap.size = w4.heap.size + 1 := by rw [hW5]; exact World.size_alloc _ _
  rw [← hW5] at b5 x5
  rw [← hG7] at x5
  have bw4 := HX3.out.2.1.trans (hb4.mono HX3.out.2.1.size)
  have bw5 := bw4.trans (b5.mono bw4.size)
  have hg4lt : G4 < W3.heap.size := lt_of_block HX3.out.1
  have hg4 : G4 < w4.heap.size := Nat.lt_of_lt_of_le hg4lt hb4.size
  have x4 : BX W5 G4 26 #[.slice none 0 0] := (HX3.out.1.below hb4).below b5
  have hw05 : Below w0.heap.size w0 W5 := H0.out.trans (bw5.mono H0.out.size)
  have hwf : ∀ j, j < ks.length → WfK (kAt ks j) := fun j hj => (HFIT.out j (by rw [HL.out]; exact hj)).2
  have HSEQ := Lib.hid (leaves_seq 2 (by decide) G7 bn bp n N G4 ks w0 W5 ⟨x5, hnm.keep b5, him.keep b5⟩ hw05 (by omega) (by omega) HT.out hwf)
  have HPI := Lib.hid (show PI w W5 G4 W5.heap.size [] from ⟨⟨_, x4, OwnP.nil _ _⟩, bw5⟩)
  have HLT := Lib.hid (show G4 < W5.heap.size ∧ w.heap.size ≤ W5.heap.size ∧ w.heap.size ≤ G4 ∧ G7 < W5.heap.size from ⟨by omega, bw5.size, by rw [HW3.out.1]; exact bw2s, by omega⟩)
  have HIT := Lib.hid (leavesIt_any (some bn) (some bp) w4)
  have HW5 := Lib.hid (show G7 = w4.heap.size ∧ W5 = _ from ⟨hG7, hW5⟩)
  have HB05 := Lib.hid hw05
  have HKF := Lib.hid (show ∀ k ∈ ks, FitN k.n from fun k hk => by
    obtain ⟨j, hj, e⟩ := List.getElem_of_mem hk
    have := (HFIT.out j (by rw [HL.out]; exact hj)).1
    rw [kAt_eq hj, e] at this
    exact this)
  have HK80 := Lib.hid (show ∀ k ∈ ks, k.n.ks.length ≤ 80 from fun k hk => by
    obtain ⟨j, hj, e⟩ := List.getElem_of_mem hk
    have h1 := ((soundB_iff 64 (kAt ks j).n).1 (HT.out.nd.2 j hj).2.2).2.keys.many
    rw [kAt_eq hj, e] at h1
    omega)
  clear hnm him b5 x5 hG7 hW5 s5 bw4 bw5 hg4lt hg4 x4 hw05 hwf hb4 HC1
  go_wp2_with fail
  refine HIT.out.mono ?_
  rintro e w7 ⟨rfl, rfl⟩
  rw [← HW5.out.1, ← HW5.out.2]
  clear HIT
  go_wp2
  refine (wpIn_wide (n := 3)).1 ?_
  refine range_goes3 (τ := 32) rfl (by decide) (gf := 29) (lb := #[.pointer (some ⟨G7, 0, none⟩)]) rfl trivial (enters_of Try.func29 (by kernel_rfl) rfl) HSEQ.out (fun h k => h.trans k) (fun W l o o' _ h h1 h2 => KeptT.put G4 _ W l o o' h h1 h2) (fun _ => rfl)
    (fun (pre : List (LfV w0 ks)) A => PI w A G4 W5.heap.size (lfs pre)) (fun s A C h hb => h.low hb HLT.out.1 HLT.out.2.1) HPI.out
    (fun x W => { tmps := #[.slice ao n c, undef, .slice none 0 0, .bool false, .pointer (some ⟨G4, 0, none⟩), .pointer (some ⟨W.heap.size, 0, none⟩), .slice ao n c, v1, .bool false, .slice ao n c, .agg #[.map (some bn), .map (some bp)], .func (.func 29) #[] #[.pointer (some ⟨G7, 0, none⟩)], x.1.2, undef, undef, undef, undef, undef], defers := [] })
    (fun x W => W.alloc (.cells (aggB x.1.2) 38)) (fun x W => boxed_below W _) (fun x W hW => (KeptT.refl G4 _ W).below (boxed_below W _))
    (fun x A V => BX V A.heap.size 38 (aggB x.1.2)) (fun x W hW => BX.new W _ _) (fun x W V l o o' hq ho hc => (World.putObj_heap_other (fun e => by
      subst e
      unfold BX at hq
      rw [hq] at ho
      cases ho
      cases hc)).trans hq) ?assign ?body ?done
  case assign =>
    rintro l ⟨⟨k, v⟩, ⟨ak, av, ac, ck, cv, cc, hv, hnd⟩, hmem⟩ W K hK
    simp only at hv
    subst hv
    simp only [aggB] at hK ⊢
    gi_wp2
    exact hK
  case body =>
    rintro l pre ⟨⟨k, v⟩, ⟨ak, av, ac, ck, cv, cc, hv, hnd⟩, hmem⟩ A V hV hq hA hlen
    simp only at hv hmem hnd
    subst hv
    have hq' : BX V A.heap.size 38 #[.int .i64 k.n.lv, .string k.n.lo, .string k.n.hi, .bool k.n.la, .int .i64 k.n.nx, .slice ak k.n.ks.length ck, .slice av k.n.vs.length cv, .slice ac k.n.cs.length cc] := hq
    have hkf := HKF.out k hmem
    have hpre : (allP (lfs pre)).length ≤ 80 * pre.length := by
      have := allP_len (l := lfs pre) (fun x hx => HK80.out x (lfs_mem hx))
      unfold lfs at this ⊢
      rwa [List.length_map] at this
    have hk80 := HK80.out k hmem
    obtain ⟨⟨vp, hx4, hown⟩, hbl⟩ := hV
    obtain ⟨aop, cp, rfl⟩ := hown.open
    obtain ⟨np, hnp⟩ : ∃ n, n = (allP (lfs pre)).length := ⟨_, rfl⟩
    rw [← hnp] at hown hx4
    have HP0 := Lib.hid hown
    have HSZ := Lib.hid (show (allP (lfs pre)).length + (prs k.n.ks k.n.vs).length ≤ 1000000000000 by rw [prs_min]; have := HN.out; have := HL.out; omega)
    have HX4 := Lib.hid hx4
    have HBL := Lib.hid hbl
    have HQ := Lib.hid hq'
    have hb0V : Below w0.heap.size w0 V := H0.out.trans (hbl.mono H0.out.size)
    have HPR := Lib.hid (fun W (hb : Below V.heap.size V W) => lpairs_any k.n.lv k.n.nx k.n.lo k.n.hi k.n.la ak av ac ck cv cc k.n.ks k.n.vs k.n.cs W ((hnd.keep hb0V).keep hb) (by omega) (fun x hx => hkf.fit.ks x hx))
    obtain ⟨gA, hgA⟩ : ∃ g, g = A.heap.size := ⟨_, rfl⟩
    have hne : ¬ gA = G4 := by have := HLT.out; omega
    rw [← hgA] at hq' HQ
    rw [← hgA]
    obtain ⟨pa, hpa⟩ : ∃ pa, pa = allP (lfs pre) := ⟨_, rfl⟩
    obtain ⟨pk, hpk⟩ : ∃ pk, pk = prs k.n.ks k.n.vs := ⟨_, rfl⟩
    have HPA := Lib.hid (show allP (lfs (pre ++ [⟨(k, .agg #[.int .i64 k.n.lv, .string k.n.lo, .string k.n.hi, .bool k.n.la, .int .i64 k.n.nx, .slice ak k.n.ks.length ck, .slice av k.n.vs.length cv, .slice ac k.n.cs.length cc]), ⟨ak, av, ac, ck, cv, cc, rfl, hnd⟩, hmem⟩])) = pa ++ pk from by rw [lfs_snoc, allP_more, hpa, hpk])
    rw [← hpa] at HP0 HSZ
    rw [← hpk] at HSZ HPR
    have HCELL : Hid (∀ U, Below V.heap.size V U → U.cell? ⟨G4, 0, none⟩ = some (.slice aop np cp) ∧ U.cell? ⟨gA, 0, none⟩ = some (.int .i64 k.n.lv) ∧ U.cell? ⟨gA, 1, none⟩ = some (.string k.n.lo) ∧ U.cell? ⟨gA, 2, none⟩ = some (.string k.n.hi) ∧ U.cell? ⟨gA, 3, none⟩ = some (.bool k.n.la) ∧ U.cell? ⟨gA, 4, none⟩ = some (.int .i64 k.n.nx) ∧ U.cell? ⟨gA, 5, none⟩ = some (.slice ak k.n.ks.length ck) ∧ U.cell? ⟨gA, 6, none⟩ = some (.slice av k.n.vs.length cv) ∧ U.cell? ⟨gA, 7, none⟩ = some (.slice ac k.n.cs.length cc)) := Lib.hid (fun U hU => ⟨(HX4.out.below hU).cell 0 rfl, (HQ.out.below hU).cell 0 rfl, (HQ.out.below hU).cell 1 rfl, (HQ.out.below hU).cell 2 rfl, (HQ.out.below hU).cell 3 rfl, (HQ.out.below hU).cell 4 rfl, (HQ.out.below hU).cell 5 rfl, (HQ.out.below hU).cell 6 rfl, (HQ.out.below hU).cell 7 rfl⟩)
    have hS := HCELL.out V (Below.refl _ _)
    have hSd := HCELL.out V.drew (Below.refl _ _).drew
    have HV5 := Lib.hid (show W5.heap.size ≤ V.heap.size from by have := lt_of_block HQ.out; omega)
    clear hnp hq hq' hkf hpre hk80 hx4 hown hbl hb0V hpa hpk hlen hA hgA
    gi_wp2
    refine wpIn_region_any (by kernel_rfl) ?_
    change wpAnyIn _ _ _ _ _ _ _ _ _ (World.drew _)
    refine wpAnyIn_ready (rs := [0, 1]) (by kernel_rfl) (by simp) ?_
    refine AllReadyIn.cons rfl (fun K hK => ?_) (AllReadyIn.cons rfl (fun K hK => ?_) AllReadyIn.nil)
    · go_simp
      refine hK _ _ ?_
      clear hK K
      refine wpAnyIn_ready (rs := [1]) (by kernel_rfl) (by simp) ?_
      refine AllReadyIn.cons rfl (fun K hK => ?_) AllReadyIn.nil
      go_simp
      refine hK _ _ ?_
      clear hK K
      refine wpAnyIn_ready (rs := [2]) (by kernel_rfl) (by simp) ?_
      refine AllReadyIn.cons rfl (fun K hK => ?_) AllReadyIn.nil
      go_simp
      refine ⟨trivial, ?_⟩
      refine (((callsIn_wide (n := 0)).2 (HPR.out _ (Below.refl _ _).drew)).inRound l).mono ?_
      rintro e wb ⟨u, rfl, hu, hbb⟩
      refine hK _ _ ?_
      clear hK K
      have HU := Lib.hid (show Below V.heap.size V wb ∧ _ from ⟨(Below.refl V.heap.size V).drew.trans hbb, hu⟩)
      have hSb := HCELL.out wb HU.out.1
      clear hu hbb hSd
      refine wpAnyIn_ready (rs := [3]) (by kernel_rfl) (by simp) ?_
      refine AllReadyIn.cons rfl (fun K hK => ?_) AllReadyIn.nil
      refine opIn_append_PP (.tmp 13) (.tmp 15) rfl W5.heap.size V.drew.heap.size (.slice aop np cp) u pa pk rfl rfl (HP0.out.keep HU.out.1) HU.out.2 HSZ.out (Nat.le_trans HV5.out HU.out.1.size) ?_
      intro v6 w6 hown6 hgrow6
      obtain ⟨ao6, c6, rfl⟩ := hown6.open
      obtain ⟨n6, hn6⟩ : ∃ n, n = (pa ++ pk).length := ⟨_, rfl⟩
      rw [← hn6] at hown6 ⊢
      refine hK _ _ ?_
      clear hK K hSb
      have HG6 := Lib.hid (show OwnP w6 W5.heap.size (.slice ao6 n6 c6) (pa ++ pk) ∧ GrowP W5.heap.size wb w6 from ⟨hown6, hgrow6⟩)
      clear hown6 hgrow6 hn6
      have x6 : BX w6 G4 26 #[.slice aop np cp] := HG6.out.2.o G4 _ (HX4.out.below HU.out.1) (Or.inl HLT.out.1)
      have c6v : w6.cell? ⟨G4, 0, none⟩ = some (.slice aop np cp) := x6.cell 0 rfl
      have f6 := bx_frozen x6 0
      have HX6 := Lib.hid x6
      clear x6
      refine wpAnyIn_ready (rs := [4]) (by kernel_rfl) (by simp) ?_
      refine AllReadyIn.cons rfl (fun K hK => ?_) AllReadyIn.nil
      go_simp
      refine hK _ _ ?_
      clear hK K
      refine wpAnyIn_done (by kernel_rfl) ?_ _
      exact body_end V wb w6 _ _ pa pk HX6.out HG6.out HU.out.1 HBL.out ⟨HLT.out.1, HLT.out.2.1, HLT.out.2.2.1, trivial⟩ HPA.out
    · go_simp
      refine hK _ _ ?_
      clear hK K
      refine wpAnyIn_ready (rs := [0, 2]) (by kernel_rfl) (by simp) ?_
      refine AllReadyIn.cons rfl (fun K hK => ?_) (AllReadyIn.cons rfl (fun K hK => ?_) AllReadyIn.nil)
      · go_simp
        refine hK _ _ ?_
        clear hK K
        refine wpAnyIn_ready (rs := [2]) (by kernel_rfl) (by simp) ?_
        refine AllReadyIn.cons rfl (fun K hK => ?_) AllReadyIn.nil
        go_simp
        refine ⟨trivial, ?_⟩
        refine (((callsIn_wide (n := 0)).2 (HPR.out _ (Below.refl _ _).drew)).inRound l).mono ?_
        rintro e wb ⟨u, rfl, hu, hbb⟩
        refine hK _ _ ?_
        clear hK K
        have HU := Lib.hid (show Below V.heap.size V wb ∧ _ from ⟨(Below.refl V.heap.size V).drew.trans hbb, hu⟩)
        have hSb := HCELL.out wb HU.out.1
        clear hu hbb hSd
        refine wpAnyIn_ready (rs := [3]) (by kernel_rfl) (by simp) ?_
        refine AllReadyIn.cons rfl (fun K hK => ?_) AllReadyIn.nil
        refine opIn_append_PP (.tmp 13) (.tmp 15) rfl W5.heap.size V.drew.heap.size (.slice aop np cp) u pa pk rfl rfl (HP0.out.keep HU.out.1) HU.out.2 HSZ.out (Nat.le_trans HV5.out HU.out.1.size) ?_
        intro v6 w6 hown6 hgrow6
        obtain ⟨ao6, c6, rfl⟩ := hown6.open
        obtain ⟨n6, hn6⟩ : ∃ n, n = (pa ++ pk).length := ⟨_, rfl⟩
        rw [← hn6] at hown6 ⊢
        refine hK _ _ ?_
        clear hK K hSb
        have HG6 := Lib.hid (show OwnP w6 W5.heap.size (.slice ao6 n6 c6) (pa ++ pk) ∧ GrowP W5.heap.size wb w6 from ⟨hown6, hgrow6⟩)
        clear hown6 hgrow6 hn6
        have x6 : BX w6 G4 26 #[.slice aop np cp] := HG6.out.2.o G4 _ (HX4.out.below HU.out.1) (Or.inl HLT.out.1)
        have c6v : w6.cell? ⟨G4, 0, none⟩ = some (.slice aop np cp) := x6.cell 0 rfl
        have f6 := bx_frozen x6 0
        have HX6 := Lib.hid x6
        clear x6
        refine wpAnyIn_ready (rs := [4]) (by kernel_rfl) (by simp) ?_
        refine AllReadyIn.cons rfl (fun K hK => ?_) AllReadyIn.nil
        go_simp
        refine hK _ _ ?_
        clear hK K
        refine wpAnyIn_done (by kernel_rfl) ?_ _
        exact body_end V wb w6 _ _ pa pk HX6.out HG6.out HU.out.1 HBL.out ⟨HLT.out.1, HLT.out.2.1, HLT.out.2.2.1, trivial⟩ HPA.out
      · go_simp
        refine ⟨trivial, ?_⟩
        refine (((callsIn_wide (n := 0)).2 (HPR.out _ (Below.refl _ _).drew)).inRound l).mono ?_
        rintro e wb ⟨u, rfl, hu, hbb⟩
        refine hK _ _ ?_
        clear hK K
        have HU := Lib.hid (show Below V.heap.size V wb ∧ _ from ⟨(Below.refl V.heap.size V).drew.trans hbb, hu⟩)
        have hSb := HCELL.out wb HU.out.1
        clear hu hbb hSd
        refine wpAnyIn_ready (rs := [0]) (by kernel_rfl) (by simp) ?_
        refine AllReadyIn.cons rfl (fun K hK => ?_) AllReadyIn.nil
        go_simp
        refine hK _ _ ?_
        clear hK K
        refine wpAnyIn_ready (rs := [3]) (by kernel_rfl) (by simp) ?_
        refine AllReadyIn.cons rfl (fun K hK => ?_) AllReadyIn.nil
        refine opIn_append_PP (.tmp 13) (.tmp 15) rfl W5.heap.size V.drew.heap.size (.slice aop np cp) u pa pk rfl rfl (HP0.out.keep HU.out.1) HU.out.2 HSZ.out (Nat.le_trans HV5.out HU.out.1.size) ?_
        intro v6 w6 hown6 hgrow6
        obtain ⟨ao6, c6, rfl⟩ := hown6.open
        obtain ⟨n6, hn6⟩ : ∃ n, n = (pa ++ pk).length := ⟨_, rfl⟩
        rw [← hn6] at hown6 ⊢
        refine hK _ _ ?_
        clear hK K hSb
        have HG6 := Lib.hid (show OwnP w6 W5.heap.size (.slice ao6 n6 c6) (pa ++ pk) ∧ GrowP W5.heap.size wb w6 from ⟨hown6, hgrow6⟩)
        clear hown6 hgrow6 hn6
        have x6 : BX w6 G4 26 #[.slice aop np cp] := HG6.out.2.o G4 _ (HX4.out.below HU.out.1) (Or.inl HLT.out.1)
        have c6v : w6.cell? ⟨G4, 0, none⟩ = some (.slice aop np cp) := x6.cell 0 rfl
        have f6 := bx_frozen x6 0
        have HX6 := Lib.hid x6
        clear x6
        refine wpAnyIn_ready (rs := [4]) (by kernel_rfl) (by simp) ?_
        refine AllReadyIn.cons rfl (fun K hK => ?_) AllReadyIn.nil
        go_simp
        refine hK _ _ ?_
        clear hK K
        refine wpAnyIn_done (by kernel_rfl) ?_ _
        exact body_end V wb w6 _ _ pa pk HX6.out HG6.out HU.out.1 HBL.out ⟨HLT.out.1, HLT.out.2.1, HLT.out.2.2.1, trivial⟩ HPA.out
  case done =>
    rintro D xs W hD hS hTI hK
    obtain ⟨⟨vp, hx4, hown⟩, hbl⟩ := hTI
    have m0 : W.cell? ⟨G4, 0, none⟩ = some vp := hx4.cell 0 rfl
    have HE := Lib.hid (show OwnP W w.heap.size vp (allP (lfs xs)) ∧ Has ks (lfs xs) ∧ Below w.heap.size w W ∧ W.heap[D]? = some (.deferred (some [])) ∧ w.heap.size ≤ D from ⟨hown.base HLT.out.2.1, ⟨HT.out, hS⟩, hbl, hK, by have := HLT.out; omega⟩)
    clear hS hx4 hown hbl hK hD
    gi_wp2
    go_wp2
    refine ⟨by simp, .inl ⟨_, _, rfl, run_takeDeferred HE.out.2.2.2.1, ?_⟩⟩
    refine ⟨.tuple #[vp, .bool true], by simp [results, Try.results7, go_sem, *], ⟨vp, lfs xs, rfl, ownsRow_putObj HE.out.1 _ HE.out.2.2.2.1 rfl, HE.out.2.1⟩, HE.out.2.2.1.trans (belowK_b (w := w) (Nat.le_refl _) W D _ _ HE.out.2.2.2.2 HE.out.2.2.2.1 rfl rfl)⟩
end Go.Proofs.Ytgaacoeggikbpaa

namespace Go.Proofs.Ytgaacoeggikbpaa
open Go.RowKit Go.Maps

/-- The empty leaf, in the cell 0. -/
def kE : Kn := ⟨0, 0, 0, ⟨0, -1, ⟨#[]⟩, ⟨#[]⟩, true, [], [], []⟩⟩
theorem kE_at : kAt [kE] 0 = kE := rfl
theorem kE_sound : kE.n.Sound 4 := empty_sound
theorem kE_find {c : Int} {k : Kn} (h : kfind [kE] c = some k) : k = kE ∧ c = 0 := by
  unfold kfind at h
  have h1 := List.mem_of_find?_eq_some h
  have h2 := List.find?_some h
  rw [List.mem_singleton.1 h1] at h2 ⊢
  exact ⟨rfl, (of_decide_eq_true h2).symm⟩
theorem kE_whole : WholeP 4 [kE] := by
  refine ⟨by omega, ⟨by decide, fun j hj => ?_⟩, fun j hj => ?_⟩
  · obtain rfl : j = 0 := by simpa using hj
    exact ⟨by decide, by decide, (soundB_iff 4 _).2 ⟨by omega, kE_sound⟩⟩
  · obtain rfl : j = 0 := by simpa using hj
    exact ⟨fun _ => by decide, fun i hi => absurd hi (Nat.not_lt_zero _), fun h => (by cases h), fun h => absurd rfl h, .root⟩
theorem kE_height : heightN [kE] = 1 := by
  have h : soundB 64 kE.n = true := (soundB_iff 64 _).2 ⟨by omega, SoundP.to64 kE_sound (by omega)⟩
  have hk : kfind [kE] 0 = some kE := rfl
  unfold heightN
  rw [hk]
  simp only [h, if_true]
  rfl
theorem kE_pairs {l : List Kn} (h : Has [kE] l) : allP l = [] := by
  have key : ∀ m ∈ l, m = kE := fun m hm => (kE_find (h.leafs m hm).1).1
  unfold allP
  rw [List.flatMap_eq_nil_iff]
  intro m hm
  rw [key m hm]
  rfl
theorem kE_at_ (w : World) (g : Nat) (h : BX w g 40 #[.int .i64 0, .int .u64 0, .int .u64 0, .int .i64 0, .string ⟨#[]⟩, .string ⟨#[]⟩, .bool true, .int .i64 (-1), .slice none 0 0, .slice none 0 0, .slice none 0 0]) : KsAt (PV w) w (.slice (some ⟨g, 0, none⟩) 1 1) [kE] := by
  refine ⟨_, 1, rfl, Nat.le_refl _, by decide, fun _ => ⟨g, 0, rfl, fun j hj => ?_⟩⟩
  obtain rfl : j = 0 := by simpa using hj
  refine ⟨[.int .i64 0, .int .u64 0, .int .u64 0, .int .i64 0, .string ⟨#[]⟩, .string ⟨#[]⟩, .bool true, .int .i64 (-1), .slice none 0 0, .slice none 0 0, .slice none 0 0], ⟨none, 0, 0, none, 0, 0, none, 0, 0, rfl, none, none, none, 0, 0, 0, rfl, empty_nd w⟩, fun i hi => ?_⟩
  rcases (show i = 0 ∨ i = 1 ∨ i = 2 ∨ i = 3 ∨ i = 4 ∨ i = 5 ∨ i = 6 ∨ i = 7 ∨ i = 8 ∨ i = 9 ∨ i = 10 by omega) with rfl | rfl | rfl | rfl | rfl | rfl | rfl | rfl | rfl | rfl | rfl
  all_goals exact h.cell _ rfl
theorem kE_fit : ∀ j, j < 1 → FitN (kAt [kE] j).n ∧ WfK (kAt [kE] j) := fun j hj => by
  obtain rfl : j = 0 := by omega
  exact ⟨⟨⟨by decide, by decide, (fun x hx => by cases hx), by decide⟩, by decide, by decide⟩, ⟨by decide, by decide, (fun x hx => by cases hx)⟩⟩
set_option maxHeartbeats 4000000 in
set_option maxRecDepth 100000 in
theorem lives15_any (w : World) : Calls Try.prog 6 #[] w fun e w' => e = .returned (.bool true) ∧ Below w.heap.size w w' := by
  have HE := Lib.hid (empty_any w)
  go_enter Try.func6, Try.ntmps6
  go_wp2_with fail
  refine HE.out.mono ?_
  rintro e w1 ⟨rfl, hb1⟩
  have HB1 := Lib.hid hb1
  clear hb1
  go_upto_region 2 with fail
  have hx2 := boxed_below w1 (.cells #[.int .i64 0, .int .u64 0, .int .u64 0, .int .i64 0, .string ⟨#[]⟩, .string ⟨#[]⟩, .bool true, .int .i64 (-1), .slice none 0 0, .slice none 0 0, .slice none 0 0] 40)
  have n2 := BX.new w1 40 #[.int .i64 0, .int .u64 0, .int .u64 0, .int .i64 0, .string ⟨#[]⟩, .string ⟨#[]⟩, .bool true, .int .i64 (-1), .slice none 0 0, .slice none 0 0, .slice none 0 0]
  obtain ⟨G, hG⟩ : ∃ g, g = w1.heap.size := ⟨_, rfl⟩
  rw [← hG] at n2
  obtain ⟨W2, hW2⟩ : ∃ W, W = w1.alloc (.cells #[.int .i64 0, .int .u64 0, .int .u64 0, .int .i64 0, .string ⟨#[]⟩, .string ⟨#[]⟩, .bool true, .int .i64 (-1), .slice none 0 0, .slice none 0 0, .slice none 0 0] 40) := ⟨_, rfl⟩
  rw [← hW2] at hx2 n2
  rw [← hG, ← hW2]
  have HK := Lib.hid (kE_at_ W2 G n2)
  have HB2 := Lib.hid (HB1.out.trans (hx2.mono HB1.out.size))
  have HPR := Lib.hid (pairs15_any W2 _ 1 1 [kE] 4 W2 (Below.refl _ _) HK.out (by decide) kE_fit kE_whole)
  clear hx2 n2 hG hW2
  go_wp2_with fail
  refine HPR.out.mono ?_
  rintro e w3 ⟨⟨v3, l3, rfl, hown, hhas⟩, hb3⟩
  rw [kE_pairs hhas] at hown
  obtain ⟨ao3, c3, rfl⟩ := hown.open
  simp only [List.length_nil]
  have HB3 := Lib.hid hb3
  have HF := Lib.hid (flaws_all w3 none 0 0 [] 4 w3 (Below.refl _ _) (KsAt.nil _ _) (by decide) (fun j hj => absurd hj (Nat.not_lt_zero _)))
  clear hown hhas hb3 HPR
  go_wp2_with fail
  refine HF.out.mono ?_
  rintro e w4 ⟨⟨v4, fs, rfl, hfv, -, hfe⟩, hb4⟩
  rw [show fs = [(1, 0)] from by first | exact (hfe (by decide)).2 rfl | exact (hfe (by decide)).2 trivial | exact hfe.2 trivial] at hfv
  rcases hfv.form with ⟨h0, _⟩ | ⟨g4, c4, rfl, hr⟩
  · cases h0
  simp only [List.length_cons, List.length_nil] at hr ⊢
  have HB4 := Lib.hid (HB3.out.trans (hb4.mono HB3.out.size))
  have HR := Lib.hid hr
  have HC4 := hr.2.2.1
  have HC4m : c4 ≤ 9223372036854775807 := by have h2 := hr.2.2.2.1; unfold maxLen at h2; omega
  clear hfv hfe hb4 HF hr
  have HWH := Lib.hid (whole_any W2 _ 1 1 [kE] 4 w4 HB4.out (HK.out.keep HB4.out) (by decide) kE_fit)
  go_wp2_with fail
  refine HWH.out.mono ?_
  rintro e w5 ⟨r5, rfl, hr5, hb5⟩
  obtain rfl : r5 = true := hr5.2 kE_whole
  have HB5 := Lib.hid (HB4.out.trans (hb5.mono HB4.out.size))
  have HR5 := Lib.hid (HR.out.block (hb5.block g4 HR.out.lt))
  have HHT := Lib.hid (height_any W2 _ 1 1 [kE] w5 HB5.out (HK.out.keep HB5.out) (by decide) (fun j hj => (kE_fit j hj).1))
  rw [kE_height] at HHT
  clear hr5 hb5 HWH HR
  go_wp2_with fail
  refine HHT.out.mono ?_
  rintro e w6 ⟨rfl, hb6⟩
  have HB6 := Lib.hid (HB5.out.trans (hb6.mono HB5.out.size))
  obtain ⟨h1, h2, _⟩ := (HR5.out.block (hb6.block g4 HR5.out.lt)).at_ (j := 0) (by decide)
  have q0 : w6.cell? ⟨g4, 0, none⟩ = some (.int .i64 1) := h1
  have q1 : w6.cell? ⟨g4, 1, none⟩ = some (.int .i64 0) := h2
  clear h1 h2 hb6 HHT
  go_wp2
  go_ret
  exact ⟨rfl, HB2.out.trans (HB6.out.mono HB2.out.size)⟩
end Go.Proofs.Ytgaacoeggikbpaa
