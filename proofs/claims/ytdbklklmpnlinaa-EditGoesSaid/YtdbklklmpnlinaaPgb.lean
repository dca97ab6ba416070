/- edit.fits, edit.behind. Condition: numbers that fit. A map from cells to places; slices.Backward of a row of Knowns, as an iterator. Condition: few nodes, whose cells' numbers are numbers. edit.behind: what a cell has behind a change. Condition: the node's rows fit. slices.Clone of a row of Knowns. Condition: there are few. Rows of Knowns that a call made, their elements written whole; what cells have behind changes that fit. No condition. No walk. A range over a function whose loop variable stands in a box of its own. No condition. edit.Apply of changes that fit. Condition: few nodes, few changes, whose numbers are numbers. -/
import Derived.Test.YtdbklklmpnlinaaPg9
import Derived.Test.YtdbklklmpnlinaaPga
import Derived.RangeFuncNested
import Derived.RangeFuncBound
import Derived.RangeFuncCalls
import Derived.RangeFuncLeaves
import Derived.Shelf.Abstract
import Derived.Shelf.RegionOpen
import Derived.WalkKit
import Derived.OwnWalkIn
import Derived.TacticsInMore
import Derived.LoopNIn
import Derived.LoopIn
import Derived.Maps.OwnIn
import Derived.Maps.AppendAt
import Derived.Test.YtdbklklmpnlinaaPg8
import Derived.Deep.AppendLies
import Derived.Laws.AppendOwnNone
import Derived.Test.YtdbklklmpnlinaaLater
import Derived.Deep.RegionHeldLaw
import Derived.Deep.DeepCutAuto
namespace Go.Proofs.Ytdbklklmpnlinaa
open Go.RowKit Go.Maps

set_option maxHeartbeats 2000000 in
set_option maxRecDepth 100000 in
theorem fits1_any (yc wd vr : Int) (yn : Nod) (kv vv cv : Value) (xc : Int) (em li : Bool) (xn : Nod) (ku vu cu : Value) (pl word : Nat) (w : World) (he : em = true → wd ≠ 0) (hs : word + pl < 18446744073709551616) (h0 : 0 < word) (hp : pl ≤ 1000000) :
    Calls Try.prog 50 #[.agg (knC ⟨yc, wd, vr, yn⟩ kv vv cv), .agg (chA ⟨xc, -1, wd, vr, em, li, xn⟩ ku vu cu), .int .i64 (pl : Nat), .int .u64 (word : Nat)] w fun e w' => e = .returned (.bool true) ∧ Below w.heap.size w w' := by
  unfold knC chA
  simp only
  obtain ⟨W1, hW1, n1, n2, hb⟩ := bx2 w 43 97 #[.int .i64 yc, .int .u64 wd, .int .u64 vr, .int .i64 yn.lv, .string yn.lo, .string yn.hi, .bool yn.la, .int .i64 yn.nx, kv, vv, cv] #[.int .i64 xc, .int .i64 (-1), .int .u64 wd, .int .u64 vr, .bool em, .bool li, .int .i64 xn.lv, .string xn.lo, .string xn.hi, .bool xn.la, .int .i64 xn.nx, ku, vu, cu]
  obtain ⟨G1, hG1⟩ : ∃ g, g = w.heap.size := ⟨_, rfl⟩
  obtain ⟨G2, hG2⟩ : ∃ g, g = w.heap.size + 1 := ⟨_, rfl⟩
  rw [← hG1] at n1
  rw [← hG2] at n2
  have a1 := n1.cell 1 rfl
  have a2 := n1.cell 2 rfl
  have b1 := n2.cell 1 rfl
  have b2 := n2.cell 2 rfl
  have b3 := n2.cell 3 rfl
  have b4 := n2.cell 4 rfl
  have HB := Lib.hid hb
  have HW := Lib.hid (show G1 = w.heap.size ∧ G2 = w.heap.size + 1 ∧ _ from ⟨hG1, hG2, hW1⟩)
  have s1 : ((wd : Int) != wd) = false := by simp
  have s2 : ((vr : Int) != vr) = false := by simp
  have k1 : IntKind.u64.wrap (pl : Int) = (pl : Int) := by rw [IntKind.wrap_u64]; omega
  have k2 : IntKind.u64.wrap ((word : Int) + (pl : Int)) = (word : Int) + (pl : Int) := by rw [IntKind.wrap_u64]; omega
  have k3 : (((word : Int) + (pl : Int)) != 0) = true := by rw [bne_iff_ne]; omega
  have k4 : ¬ (pl : Int) ≤ -1 := by omega
  clear n1 n2 hb hG1 hG2 hW1 hs
  cases em with
  | false =>
    go_enter Try.func50, Try.ntmps50
    go_upto_region 1 with fail
    rw [← HW.out.2.2, ← HW.out.2.1, ← HW.out.1]
    go_wp2
    go_ret
    exact ⟨rfl, HB.out⟩
  | true =>
    have hz : ((wd : Int) == 0) = false := beq_eq_false_iff_ne.2 (he rfl)
    clear he
    go_enter Try.func50, Try.ntmps50
    go_upto_region 1 with fail
    rw [← HW.out.2.2, ← HW.out.2.1, ← HW.out.1]
    go_wp2
    go_ret
    exact ⟨rfl, HB.out⟩
set_option maxHeartbeats 2000000 in
set_option maxRecDepth 100000 in
theorem fits2_any (yc vr : Int) (j : Nat) (yn : Nod) (kv vv cv : Value) (xc xwd : Int) (em li : Bool) (xn : Nod) (ku vu cu : Value) (pl word : Nat) (w : World) (hj : j < pl) (hs : word + pl < 18446744073709551616) (h0 : 0 < word) (hp : pl ≤ 1000000) :
    Calls Try.prog 50 #[.agg (knC ⟨yc, ((word + j : Nat) : Int), vr, yn⟩ kv vv cv), .agg (chA ⟨xc, (j : Nat), xwd, vr, em, li, xn⟩ ku vu cu), .int .i64 (pl : Nat), .int .u64 (word : Nat)] w fun e w' => e = .returned (.bool true) ∧ Below w.heap.size w w' := by
  unfold knC chA
  simp only
  obtain ⟨wd, hwd⟩ : ∃ v : Int, v = ((word + j : Nat) : Int) := ⟨_, rfl⟩
  rw [← hwd]
  obtain ⟨W1, hW1, n1, n2, hb⟩ := bx2 w 43 97 #[.int .i64 yc, .int .u64 wd, .int .u64 vr, .int .i64 yn.lv, .string yn.lo, .string yn.hi, .bool yn.la, .int .i64 yn.nx, kv, vv, cv] #[.int .i64 xc, .int .i64 (j : Nat), .int .u64 xwd, .int .u64 vr, .bool em, .bool li, .int .i64 xn.lv, .string xn.lo, .string xn.hi, .bool xn.la, .int .i64 xn.nx, ku, vu, cu]
  obtain ⟨G1, hG1⟩ : ∃ g, g = w.heap.size := ⟨_, rfl⟩
  obtain ⟨G2, hG2⟩ : ∃ g, g = w.heap.size + 1 := ⟨_, rfl⟩
  rw [← hG1] at n1
  rw [← hG2] at n2
  have a1 := n1.cell 1 rfl
  have a2 := n1.cell 2 rfl
  have b1 := n2.cell 1 rfl
  have b2 := n2.cell 2 rfl
  have b3 := n2.cell 3 rfl
  have b4 := n2.cell 4 rfl
  have HB := Lib.hid hb
  have HW := Lib.hid (show G1 = w.heap.size ∧ G2 = w.heap.size + 1 ∧ _ from ⟨hG1, hG2, hW1⟩)
  have s1 : ((wd : Int) != wd) = false := by simp
  have s2 : ((vr : Int) != vr) = false := by simp
  have s3 := bne_neg1 j
  have s4 : (((j : Nat) : Int) == -1) = false := beq_eq_false_iff_ne.2 (by omega)
  have s5 : ¬ (((j : Nat) : Int) < -1) := by omega
  have s6 : ¬ (pl : Int) ≤ (j : Int) := by omega
  have k1 : IntKind.u64.wrap (pl : Int) = (pl : Int) := by rw [IntKind.wrap_u64]; omega
  have k2 : IntKind.u64.wrap ((word : Int) + (pl : Int)) = (word : Int) + (pl : Int) := by rw [IntKind.wrap_u64]; omega
  have k5 : IntKind.u64.wrap (j : Int) = (j : Int) := by rw [IntKind.wrap_u64]; omega
  have k6 : IntKind.u64.wrap ((word : Int) + (j : Int)) = wd := by rw [IntKind.wrap_u64]; omega
  have k3 : (((word : Int) + (pl : Int)) != 0) = true := by rw [bne_iff_ne]; omega
  clear n1 n2 hb hG1 hG2 hW1 hs hwd
  go_enter Try.func50, Try.ntmps50
  go_upto_region 1 with fail
  rw [← HW.out.2.2, ← HW.out.2.1, ← HW.out.1]
  go_wp2
  go_ret
  exact ⟨rfl, HB.out⟩
end Go.Proofs.Ytdbklklmpnlinaa

namespace Go.Proofs.Ytdbklklmpnlinaa
open Go.RowKit Go.Maps Go.Shelf
attribute [local go_sem] Oper.semAt_some

/-- A map of places. -/
def PM (w : World) (b N : Nat) (f : Int → Option Nat) : Prop := ∃ D : DataW Value, w.ownsMap Try.prog 3 knR b N D ∧ (∀ c, f c = none → Maps.has D (.int .i64 c) = false) ∧ ∀ c p, f c = some p → Maps.has D (.int .i64 c) = true ∧ ∀ z, D.atKey (.int .i64 c) z = .held (.int .i64 (p : Nat))
theorem PM.made (w : World) : PM (w.alloc (.map #[] 0)) w.heap.size 0 (fun _ => none) := ⟨_, World.ownsMap_made _ _ _ _, fun _ _ => rfl, fun _ _ h => by cases h⟩
section
variable {w w' : World} {b N : Nat} {f : Int → Option Nat}
theorem PM.lt (h : PM w b N f) : b < w.heap.size := by obtain ⟨D, h1, _⟩ := h; exact h1.lt
theorem PM.block (h : PM w b N f) (hb : w'.heap[b]? = w.heap[b]?) : PM w' b N f := by
  obtain ⟨D, h1, h2⟩ := h
  exact ⟨D, ownsMap_block14 h1 hb, h2⟩
theorem PM.keep (h : PM w b N f) (hb : Below w.heap.size w w') : PM w' b N f := h.block (hb.block b h.lt)
theorem PM.nocells (h : PM w b N f) : ∀ cs t, w.heap[b]? = some (Obj.cells cs t (0, 0)) → False := by
  obtain ⟨D, ⟨es, cl, hb, _⟩, _⟩ := h
  intro cs t e
  rw [hb] at e
  cases e
theorem PM.look (h : PM w b N f) {c : Int} (hc : (Lit.int .i64 c).wf = true) {p : Nat} (hp : f c = some p) :
    (Instr.lookup 86 (.map (some b)) (.int .i64 c) true).run Try.prog w = .ok (.tuple #[.int .i64 (p : Nat), .bool true]) w := by
  obtain ⟨D, hm, _, hr⟩ := h
  obtain ⟨h1, h2⟩ := hr c p hp
  have hkey : keyOf Try.prog 3 (.int .i64 c) = some (.int .i64 c) := keyOf_int_mk Try.underlying3 hc
  obtain ⟨u, ps, hrun, hv⟩ := hm.look_ok keyedC Try.underlying86 (zeroInt w) (zd := .held (.int .i64 0)) (zp := []) rfl hkey
  have hv1 : (DataW.held u : DataW Value) = D.atKey (.int .i64 c) (.held (.int .i64 0)) := congrArg Prod.fst (Option.some.inj hv)
  rw [h2] at hv1
  have hv3 : u = _ := DataW.held.inj hv1
  rw [hv3, h1] at hrun
  exact hrun
theorem PM.store (h : PM w b N f) (hN : N < 1099511627776) {x : Int} (hx : (Lit.int .i64 x).wf = true) (p : Nat) :
    ∃ w', (Instr.mapUpdate 86 (.map (some b)) (.int .i64 x) (.int .i64 (p : Nat))).run Try.prog w = .ok () w' ∧ PM w' b (N + 1) (fun c => if c = x then some p else f c) ∧ Turn (fun j => j = b) w w' := by
  obtain ⟨D, h1, h2, h3⟩ := h
  obtain ⟨w', hrun, hown, hg⟩ := h1.update keyedC Try.underlying86 (by unfold maxLen; omega) (keyInt hx) (val := .int .i64 (p : Nat)) (d := .held (.int .i64 (p : Nat))) (ps := []) rfl
  refine ⟨w', hrun, ⟨_, hown, fun c hc => ?_, fun c q hc => ?_⟩, (Turn.refl _ w).grown hg (fun k hk => by injection hk with hk; exact Or.inl hk.symm)⟩
  · dsimp only at hc
    by_cases e : c = x
    · rw [if_pos e] at hc; cases hc
    · rw [if_neg e] at hc
      rw [has_put_other (lit_ne e)]
      exact h2 c hc
  · dsimp only at hc
    by_cases e : c = x
    · subst e
      rw [if_pos rfl] at hc
      injection hc with hc
      subst hc
      exact ⟨has_put_same h1.isMap (keyLit _) _, fun z => atKey_put_same h1.isMap (keyLit _) _ z⟩
    · rw [if_neg e] at hc
      obtain ⟨q1, q2⟩ := h3 c q hc
      exact ⟨by rw [has_put_other (lit_ne e)]; exact q1, fun z => by rw [atKey_put_other (lit_ne e)]; exact q2 z⟩
end
/-- A place and its element's value. -/
def GoodP (ks : List Kn) (x : Nat × Value) : Prop := x.1 < ks.length ∧ ∃ (ak : Option Addr) (nk ck : Nat) (av : Option Addr) (nv cv : Nat) (ac : Option Addr) (nn cn : Nat), x.2 = .agg (knC (kAt ks x.1) (.slice ak nk ck) (.slice av nv cv) (.slice ac nn cn))
abbrev PlV (ks : List Kn) := { x : Nat × Value // GoodP ks x }
/-- The places that have come. -/
def plL {ks : List Kn} (l : List (PlV ks)) : List Nat := l.map (·.1.1)
/-- The first m places from the end on, the last one first. -/
def bwd (n m : Nat) : List Nat := (List.range m).map (fun j => n - 1 - j)
theorem bwd_succ (n m : Nat) : bwd n (m + 1) = bwd n m ++ [n - 1 - m] := by
  unfold bwd
  rw [List.range_succ, List.map_append]
  rfl
theorem bwd_len (n m : Nat) : (bwd n m).length = m := by simp [bwd]
set_option maxHeartbeats 4000000 in
set_option maxRecDepth 100000 in
theorem back_in (n : Nat) (hn : 1 ≤ n) (l g1 b : Nat) (ao : Option Addr) (nc cc : Nat) (ks : List Kn) (P : Value → Value → Value → Kn → Prop) (W : World) (J : List (PlV ks) → World → Prop)
    (hab : ∀ s A C, J s A → Stp W.heap.size A C → J s C)
    (hY : ∀ pre (x : PlV ks) A, J pre A → pre.length < ks.length → YieldAt Fence.wide (n - 1) Try.prog l #[.int .i64 (x.1.1 : Nat), x.1.2] A fun e C => e = .returned (.bool true) ∧ J (pre ++ [x]) C ∧ Kept b A C)
    (h1 : BX W g1 22 #[.slice ao nc cc]) (hks : KsAt P W (.slice ao nc cc) ks)
    (hne : g1 ≠ b) (hrow : ∀ g o, ao = some ⟨g, o, none⟩ → g ≠ b) (h0 : J [] W) :
    CallsIn Fence.wide n Try.prog 85 #[.func (.yield l) #[] #[], .pointer (some ⟨g1, 0, none⟩)] W fun e C => (∃ v, e = .returned v) ∧ ∃ xs : List (PlV ks), plL xs = bwd ks.length ks.length ∧ J xs C := by
  have hl := hks.len
  have HY := Lib.hid hY
  have HAB := Lib.hid hab
  have HKS := Lib.hid hks
  have HB := Lib.hid (show _ ∧ _ from ⟨h1, hne⟩)
  have HROW := Lib.hid hrow
  have HJ := Lib.hid h0
  have c1 := h1.cell 0 rfl
  have HL := Lib.hid hl.1
  have hl2 := hl.2.1
  have hl3 := hl.2.2
  clear hl
  have hwr : IntKind.i64.wrap ((nc : Int) - 1) = (nc : Int) - 1 := by rw [IntKind.wrap_i64]; omega
  clear hab hY h1 hks hne hrow h0
  refine callsIn_of_wp Try.func85 rfl trivial ?_ rfl
  simp only [Try.ntmps85, List.size_toArray, List.length_cons, List.length_nil, Nat.reduceAdd, Nat.reduceSub, Array.replicate_succ, Array.replicate_zero, List.push_toArray, List.append_toArray, List.nil_append, List.cons_append]
  gi_wp2
  gi_loopw [3] (fun v3 wr => ∃ m : Nat, v3 = .int .i64 ((nc : Int) - 1 - m) ∧ m ≤ nc ∧ Hid (Kept b W wr ∧ ∃ xs : List (PlV ks), plL xs = bwd nc m ∧ J xs wr)) (fun v3 _ => (intOf v3 + 1).toNat)
  case atStart => exact ⟨0, by rw [show ((nc : Int) - 1 - ((0 : Nat) : Int)) = (nc : Int) - 1 by omega], Nat.zero_le _, Lib.hid ⟨Kept.refl b W, [], rfl, HJ.out⟩⟩
  case round =>
    obtain ⟨i, rfl, hi, HS⟩ := hrel
    obtain ⟨wx, hwx⟩ : ∃ V : World, V = wr := ⟨_, rfl⟩
    rw [← hwx] at HS ⊢
    clear hwx
    by_cases hlt : i < nc
    · obtain ⟨p, hp⟩ : ∃ p : Nat, p = nc - 1 - i := ⟨_, rfl⟩
      have hpi : ((nc : Int) - 1 - (i : Int)) = (p : Nat) := by omega
      have hpl : p < nc := by omega
      have hpl' : (p : Int) < nc := by omega
      have hp0 : (0 : Int) ≤ (p : Nat) := by omega
      rw [hpi]
      obtain ⟨g, o, ak, nk, ck, av, nv, cv, ac, nn, cn, rfl, hP, hc⟩ := HKS.out.get hpl
      have hgb := HROW.out g o rfl
      obtain ⟨q0, q1, q2, q3, q4, q5, q6, q7, q8, q9, q10⟩ := hc W (Below.refl _ _)
      obtain ⟨y, hy⟩ : ∃ y, y = kAt ks p := ⟨_, rfl⟩
      rw [← hy] at q0 q1 q2 q3 q4 q5 q6 q7
      have d1 : wx.cell? ⟨g1, 0, none⟩ = some (.slice (some ⟨g, o, none⟩) nc cc) := HS.out.1.cell HB.out.2 (HB.out.1.cell 0 rfl)
      have r0 := HS.out.1.cell hgb q0
      have r1 := HS.out.1.cell hgb q1
      have r2 := HS.out.1.cell hgb q2
      have r3 := HS.out.1.cell hgb q3
      have r4 := HS.out.1.cell hgb q4
      have r5 := HS.out.1.cell hgb q5
      have r6 := HS.out.1.cell hgb q6
      have r7 := HS.out.1.cell hgb q7
      have r8 := HS.out.1.cell hgb q8
      have r9 := HS.out.1.cell hgb q9
      have r10 := HS.out.1.cell hgb q10
      obtain ⟨xs, hxs, hJ⟩ := HS.out.2
      have HYE := Lib.hid hy
      have hpk : p < ks.length := by have := HL.out; omega
      have hxl : xs.length < ks.length := by
        have := congrArg List.length hxs
        rw [bwd_len] at this
        unfold plL at this
        rw [List.length_map] at this
        have := HL.out
        omega
      obtain ⟨fn, tmps, assign, body, hyy, hR⟩ := HY.out xs ⟨(p, .agg (knC y (.slice ak nk ck) (.slice av nv cv) (.slice ac nn cn))), ⟨hpk, ak, nk, ck, av, nv, cv, ac, nn, cn, by rw [HYE.out]⟩⟩ wx hJ hxl
      unfold knC at hyy
      have HXS := Lib.hid (show plL xs = bwd nc i from hxs)
      have HPP := Lib.hid hp
      have hw2 : IntKind.i64.wrap ((p : Int) - 1) = (nc : Int) - 1 - ((i + 1 : Nat) : Int) := by rw [IntKind.wrap_i64]; omega
      clear hP hc hy q0 q1 q2 q3 q4 q5 q6 q7 q8 q9 q10 hxs hJ hp hxl
      gi_wp2
      refine hR.mono ?_
      rintro e W3 ⟨rfl, hJ3, hk3⟩
      have HS3 := Lib.hid (show Kept b W W3 ∧ ∃ zs : List (PlV ks), plL zs = bwd nc (i + 1) ∧ J zs W3 from ⟨HS.out.1.trans hk3, _, by
        rw [bwd_succ, ← HXS.out, ← HPP.out]
        unfold plL
        rw [List.map_append]
        rfl, hJ3⟩)
      clear hJ3 hk3 r0 r1 r2 r3 r4 r5 r6 r7 r8 r9 r10 d1
      gi_wp2
      go_roundw
      case rel => exact ⟨i + 1, by go_num, by omega, HS3⟩
      case measure => simp [intOf]; omega
    · obtain rfl : i = nc := by omega
      have hneg : ¬ (0 : Int) ≤ (i : Int) - 1 - (i : Int) := by omega
      have HE := Lib.hid (show ∃ xs : List (PlV ks), plL xs = bwd ks.length ks.length ∧ J xs wx from by rw [← HL.out]; exact HS.out.2)
      gi_wp2
      go_end0
      exact ⟨⟨_, rfl⟩, HE.out⟩
end Go.Proofs.Ytdbklklmpnlinaa

namespace Go.Proofs.Ytdbklklmpnlinaa
open Go.RowKit Go.Maps

/-- What a cell has behind a change, whose word is told. -/
def behF (x : Ch) (word : Int) : Kn := ⟨x.c, if x.em = true then 0 else word, IntKind.u64.wrap (x.vr + 1), if x.em = true then .none else x.n⟩
theorem bx_w9 {W : World} {g : Nat} {t : TypeId} {z0 z1 z2 z3 z4 z5 z6 z7 z8 z9 z10 : Value} (h : BX W g t #[z0, z1, z2, z3, z4, z5, z6, z7, z8, z9, z10]) (v1 v3 v4 v5 v6 v7 v8 v9 v10 : Value) : BX (((((((((W.setCell ⟨g, 1, none⟩ v1).setCell ⟨g, 3, none⟩ v3).setCell ⟨g, 4, none⟩ v4).setCell ⟨g, 5, none⟩ v5).setCell ⟨g, 6, none⟩ v6).setCell ⟨g, 7, none⟩ v7).setCell ⟨g, 8, none⟩ v8).setCell ⟨g, 9, none⟩ v9).setCell ⟨g, 10, none⟩ v10) g t #[z0, v1, z2, v3, v4, v5, v6, v7, v8, v9, v10] := by
  have h1 := h.set 1 v1
  simp only [List.setIfInBounds_toArray, List.set_cons_zero, List.set_cons_succ] at h1
  have h3 := h1.set 3 v3
  simp only [List.setIfInBounds_toArray, List.set_cons_zero, List.set_cons_succ] at h3
  have h4 := h3.set 4 v4
  simp only [List.setIfInBounds_toArray, List.set_cons_zero, List.set_cons_succ] at h4
  have h5 := h4.set 5 v5
  simp only [List.setIfInBounds_toArray, List.set_cons_zero, List.set_cons_succ] at h5
  have h6 := h5.set 6 v6
  simp only [List.setIfInBounds_toArray, List.set_cons_zero, List.set_cons_succ] at h6
  have h7 := h6.set 7 v7
  simp only [List.setIfInBounds_toArray, List.set_cons_zero, List.set_cons_succ] at h7
  have h8 := h7.set 8 v8
  simp only [List.setIfInBounds_toArray, List.set_cons_zero, List.set_cons_succ] at h8
  have h9 := h8.set 9 v9
  simp only [List.setIfInBounds_toArray, List.set_cons_zero, List.set_cons_succ] at h9
  have h10 := h9.set 10 v10
  simp only [List.setIfInBounds_toArray, List.set_cons_zero, List.set_cons_succ] at h10
  exact h10
theorem turn_w9 (W : World) (g : Nat) (v1 v3 v4 v5 v6 v7 v8 v9 v10 : Value) : Turn (fun j => j = g) W (((((((((W.setCell ⟨g, 1, none⟩ v1).setCell ⟨g, 3, none⟩ v3).setCell ⟨g, 4, none⟩ v4).setCell ⟨g, 5, none⟩ v5).setCell ⟨g, 6, none⟩ v6).setCell ⟨g, 7, none⟩ v7).setCell ⟨g, 8, none⟩ v8).setCell ⟨g, 9, none⟩ v9).setCell ⟨g, 10, none⟩ v10) :=
  Turn.setCell (S := fun j => j = g) (Turn.setCell (S := fun j => j = g) (Turn.setCell (S := fun j => j = g) (Turn.setCell (S := fun j => j = g) (Turn.setCell (S := fun j => j = g) (Turn.setCell (S := fun j => j = g) (Turn.setCell (S := fun j => j = g) (Turn.setCell (S := fun j => j = g) (Turn.setCell (S := fun j => j = g) (Turn.refl (fun j => j = g) W) (Or.inl rfl) v1) (Or.inl rfl) v3) (Or.inl rfl) v4) (Or.inl rfl) v5) (Or.inl rfl) v6) (Or.inl rfl) v7) (Or.inl rfl) v8) (Or.inl rfl) v9) (Or.inl rfl) v10
set_option maxHeartbeats 4000000 in
set_option maxRecDepth 100000 in
theorem behind_any (x : Ch) (ak : Option Addr) (ck : Nat) (av : Option Addr) (cw : Nat) (ac : Option Addr) (cn : Nat) (word : Int) (w : World) (hN : NdAt w ak av ac x.n.ks.length ck x.n.vs.length cw x.n.cs.length cn x.n.ks x.n.vs x.n.cs) (hn : x.n.ks.length ≤ 274877906944 ∧ x.n.vs.length ≤ 274877906944 ∧ x.n.cs.length ≤ 274877906944) :
    Calls Try.prog 51 #[.agg (chA x (.slice ak x.n.ks.length ck) (.slice av x.n.vs.length cw) (.slice ac x.n.cs.length cn)), .int .u64 word] w fun e w' => ∃ (ka : Option Addr) (k1 k2 : Nat) (va : Option Addr) (v1 v2 : Nat) (ca : Option Addr) (c1 c2 : Nat), e = .returned (.agg (knC (behF x word) (.slice ka k1 k2) (.slice va v1 v2) (.slice ca c1 c2))) ∧ NdO w' w.heap.size (.slice ka k1 k2) (.slice va v1 v2) (.slice ca c1 c2) (behF x word).n ∧ Below w.heap.size w w' := by
  obtain ⟨xc, xfr, xwd, xvr, em, li, n⟩ := x
  simp only at hN hn
  obtain ⟨vr, hvr⟩ : ∃ v, v = IntKind.u64.wrap (xvr + 1) := ⟨_, rfl⟩
  unfold behF knC chA
  simp only
  rw [← hvr]
  obtain ⟨W1, hW1, n1, n2, hb⟩ := bx2 w 97 43 #[.int .i64 xc, .int .i64 xfr, .int .u64 xwd, .int .u64 xvr, .bool em, .bool li, .int .i64 n.lv, .string n.lo, .string n.hi, .bool n.la, .int .i64 n.nx, .slice ak n.ks.length ck, .slice av n.vs.length cw, .slice ac n.cs.length cn] #[.int .i64 0, .int .u64 0, .int .u64 0, .int .i64 0, .string ⟨#[]⟩, .string ⟨#[]⟩, .bool false, .int .i64 0, .slice none 0 0, .slice none 0 0, .slice none 0 0]
  obtain ⟨G1, hG1⟩ : ∃ g, g = w.heap.size := ⟨_, rfl⟩
  obtain ⟨G2, hG2⟩ : ∃ g, g = w.heap.size + 1 := ⟨_, rfl⟩
  have s1 : W1.heap.size = w.heap.size + 2 := by rw [hW1, World.size_alloc, World.size_alloc]
  rw [← hG1] at n1
  rw [← hG2] at n2
  have b3 := boxed_below W1 (.cells #[.int .i64 xc, .int .u64 0, .int .u64 vr, .int .i64 0, .string ⟨#[]⟩, .string ⟨#[]⟩, .bool false, .int .i64 0, .slice none 0 0, .slice none 0 0, .slice none 0 0] 43)
  have n3 := BX.new W1 43 #[.int .i64 xc, .int .u64 0, .int .u64 vr, .int .i64 0, .string ⟨#[]⟩, .string ⟨#[]⟩, .bool false, .int .i64 0, .slice none 0 0, .slice none 0 0, .slice none 0 0]
  obtain ⟨W3, hW3⟩ : ∃ W, W = W1.alloc (.cells #[.int .i64 xc, .int .u64 0, .int .u64 vr, .int .i64 0, .string ⟨#[]⟩, .string ⟨#[]⟩, .bool false, .int .i64 0, .slice none 0 0, .slice none 0 0, .slice none 0 0] 43) := ⟨_, rfl⟩
  rw [← hW3] at b3 n3
  obtain ⟨G3, hG3⟩ : ∃ g, g = W1.heap.size := ⟨_, rfl⟩
  rw [← hG3] at n3
  have hb3 := hb.trans (b3.mono hb.size)
  have HN1 := Lib.hid (n1.below b3)
  have HN2 := Lib.hid (n2.below b3)
  have HN3 := Lib.hid n3
  have HB3 := Lib.hid hb3
  have HND := Lib.hid (hN.keep hb3)
  have HNN := Lib.hid hn
  have HG := Lib.hid (show G1 = w.heap.size ∧ G2 = w.heap.size + 1 ∧ G3 = w.heap.size + 2 from ⟨hG1, hG2, by rw [hG3, s1]⟩)
  have HW := Lib.hid (show G1 = w.heap.size ∧ G2 = w.heap.size + 1 ∧ W1 = _ ∧ G3 = W1.heap.size ∧ W3 = _ from ⟨hG1, hG2, hW1, hG3, hW3⟩)
  have HVR := Lib.hid hvr
  have h23 : ¬ G2 = G3 := by omega
  have h32 : ¬ G3 = G2 := by omega
  have a0 := n1.cell 0 rfl
  have a3 := n1.cell 3 rfl
  have hvr2 : IntKind.u64.wrap (xvr + 1) = vr := hvr.symm
  clear n1 n2 n3 hb b3 hb3 hG1 hG2 hG3 hW1 hW3 s1 hN hn hvr
  cases em with
  | true =>
    have e4 := HN1.out.cell 4 rfl
    have k := HN3.out
    have k0 := k.cell 0 rfl
    have k1 := k.cell 1 rfl
    have k2 := k.cell 2 rfl
    have k3 := k.cell 3 rfl
    have k4 := k.cell 4 rfl
    have k5 := k.cell 5 rfl
    have k6 := k.cell 6 rfl
    have k7 := k.cell 7 rfl
    have k8 := k.cell 8 rfl
    have k9 := k.cell 9 rfl
    have k10 := k.cell 10 rfl
    have z := HN2.out
    have z0 := z.cell 0 rfl
    have z1 := z.cell 1 rfl
    have z2 := z.cell 2 rfl
    have z3 := z.cell 3 rfl
    have z4 := z.cell 4 rfl
    have z5 := z.cell 5 rfl
    have z6 := z.cell 6 rfl
    have z7 := z.cell 7 rfl
    have z8 := z.cell 8 rfl
    have z9 := z.cell 9 rfl
    have z10 := z.cell 10 rfl
    have f0 := z.frozen 0
    have f1 := z.frozen 1
    have f2 := z.frozen 2
    have f3 := z.frozen 3
    have f4 := z.frozen 4
    have f5 := z.frozen 5
    have f6 := z.frozen 6
    have f7 := z.frozen 7
    have f8 := z.frozen 8
    have f9 := z.frozen 9
    have f10 := z.frozen 10
    clear k z
    go_enter Try.func51, Try.ntmps51
    go_upto_region 1 with fail
    rw [← HW.out.2.2.1, ← HW.out.2.1, ← HW.out.1]
    go_upto_region 2 with fail
    rw [← HW.out.2.2.2.1, ← HW.out.2.2.2.2]
    go_wp2
    refine bodyPost_ret (v := .agg #[.int .i64 xc, .int .u64 0, .int .u64 vr, .int .i64 0, .string ⟨#[]⟩, .string ⟨#[]⟩, .bool false, .int .i64 0, .slice none 0 0, .slice none 0 0, .slice none 0 0]) (by simp [results, Try.results51, go_sem, *]) rfl ?_
    refine ⟨none, 0, 0, none, 0, 0, none, 0, 0, rfl, NdO.zero _ _, ?_⟩
    exact HB3.out.trans ((turn_w11 W3 G2 _ _ _ _ _ _ _ _ _ _ _).below (fun j e => by rw [show j = G2 from e]; have := HG.out; omega) HB3.out.size)
  | false =>
    have e4 := HN1.out.cell 4 rfl
    have q6 := HN1.out.cell 6 rfl
    have q7 := HN1.out.cell 7 rfl
    have q8 := HN1.out.cell 8 rfl
    have q9 := HN1.out.cell 9 rfl
    have q10 := HN1.out.cell 10 rfl
    have q11 := HN1.out.cell 11 rfl
    have q12 := HN1.out.cell 12 rfl
    have q13 := HN1.out.cell 13 rfl
    have HCN := Lib.hid (nclone_any n.lv n.nx n.lo n.hi n.la ak av ac n.ks.length ck n.vs.length cw n.cs.length cn n.ks n.vs n.cs W3 HND.out HNN.out)
    go_enter Try.func51, Try.ntmps51
    go_upto_region 1 with fail
    rw [← HW.out.2.2.1, ← HW.out.2.1, ← HW.out.1]
    go_upto_region 2 with fail
    rw [← HW.out.2.2.2.1, ← HW.out.2.2.2.2]
    clear a0 a3
    go_wp2_with fail
    refine HCN.out.mono ?_
    rintro e w4 ⟨kv, vv, cv, rfl, hk, hv, hc, hb4⟩
    obtain ⟨ka, rfl⟩ := hk.open
    obtain ⟨va, rfl⟩ := hv.open
    obtain ⟨ca, rfl⟩ := hc.open
    rw [List.length_map] at hk hv hc
    simp only [List.length_map]
    clear e4 q6 q7 q8 q9 q10 q11 q12 q13
    have k := HN3.out.below hb4
    have k0 := k.cell 0 rfl
    have k1 := k.cell 1 rfl
    have k2 := k.cell 2 rfl
    have k3 := k.cell 3 rfl
    have k4 := k.cell 4 rfl
    have k5 := k.cell 5 rfl
    have k6 := k.cell 6 rfl
    have k7 := k.cell 7 rfl
    have k8 := k.cell 8 rfl
    have k9 := k.cell 9 rfl
    have k10 := k.cell 10 rfl
    have j1 := k.frozen 1
    have j3 := k.frozen 3
    have j4 := k.frozen 4
    have j5 := k.frozen 5
    have j6 := k.frozen 6
    have j7 := k.frozen 7
    have j8 := k.frozen 8
    have j9 := k.frozen 9
    have j10 := k.frozen 10
    have HK4 := Lib.hid k
    have HZ4 := Lib.hid (HN2.out.below hb4)
    have HB4 := Lib.hid (HB3.out.trans (hb4.mono HB3.out.size))
    have HO4 := Lib.hid (show NdO w4 w.heap.size (.slice ka n.ks.length n.ks.length) (.slice va n.vs.length n.vs.length) (.slice ca n.cs.length n.cs.length) n from ⟨(RowN.of hk).base HB3.out.size, (RowN.of hv).base HB3.out.size, (RowN.of hc).base HB3.out.size, HNN.out⟩)
    clear k hk hv hc hb4
    go_upto_region 4 with fail
    obtain ⟨W5, hW5⟩ : ∃ W, W = (((((((((w4.setCell ⟨G3, 1, none⟩ (.int .u64 word)).setCell ⟨G3, 3, none⟩ (.int .i64 n.lv)).setCell ⟨G3, 4, none⟩ (.string n.lo)).setCell ⟨G3, 5, none⟩ (.string n.hi)).setCell ⟨G3, 6, none⟩ (.bool n.la)).setCell ⟨G3, 7, none⟩ (.int .i64 n.nx)).setCell ⟨G3, 8, none⟩ (.slice ka n.ks.length n.ks.length)).setCell ⟨G3, 9, none⟩ (.slice va n.vs.length n.vs.length)).setCell ⟨G3, 10, none⟩ (.slice ca n.cs.length n.cs.length)) := ⟨_, rfl⟩
    have k5b : BX W5 G3 43 #[.int .i64 xc, .int .u64 word, .int .u64 vr, .int .i64 n.lv, .string n.lo, .string n.hi, .bool n.la, .int .i64 n.nx, .slice ka n.ks.length n.ks.length, .slice va n.vs.length n.vs.length, .slice ca n.cs.length n.cs.length] := by rw [hW5]; exact bx_w9 HK4.out (.int .u64 word) (.int .i64 n.lv) (.string n.lo) (.string n.hi) (.bool n.la) (.int .i64 n.nx) (.slice ka n.ks.length n.ks.length) (.slice va n.vs.length n.vs.length) (.slice ca n.cs.length n.cs.length)
    have t5 : Turn (fun j => j = G3) w4 W5 := by rw [hW5]; exact turn_w9 w4 G3 _ _ _ _ _ _ _ _ _
    have HW5 := Lib.hid hW5
    have z := (t5.block G2 (lt_of_block HZ4.out) h23).trans HZ4.out
    have hb5 := HB4.out.trans (t5.below (B := w.heap.size) (fun j e => by rw [show j = G3 from e]; have := HG.out; omega) HB4.out.size)
    have off3 : Off w4 (fun j => j = G3) := fun g c2 t e hg => by
      rw [show g = G3 from e] at hg
      rw [HK4.out.type9 hg]
      decide
    have off2 : Off W5 (fun j => j = G2) := fun g c2 t e hg => by
      rw [show g = G2 from e] at hg
      rw [BX.type9 (cs := #[.int .i64 0, .int .u64 0, .int .u64 0, .int .i64 0, .string ⟨#[]⟩, .string ⟨#[]⟩, .bool false, .int .i64 0, .slice none 0 0, .slice none 0 0, .slice none 0 0]) z hg]
      decide
    have HO5 := Lib.hid (HO4.out.turn off3 t5)
    have HOF := Lib.hid off2
    have HB5 := Lib.hid hb5
    have zz : BX W5 G2 43 #[.int .i64 0, .int .u64 0, .int .u64 0, .int .i64 0, .string ⟨#[]⟩, .string ⟨#[]⟩, .bool false, .int .i64 0, .slice none 0 0, .slice none 0 0, .slice none 0 0] := z
    have m0 := k5b.cell 0 rfl
    have m1 := k5b.cell 1 rfl
    have m2 := k5b.cell 2 rfl
    have m3 := k5b.cell 3 rfl
    have m4 := k5b.cell 4 rfl
    have m5 := k5b.cell 5 rfl
    have m6 := k5b.cell 6 rfl
    have m7 := k5b.cell 7 rfl
    have m8 := k5b.cell 8 rfl
    have m9 := k5b.cell 9 rfl
    have m10 := k5b.cell 10 rfl
    have z0 := zz.cell 0 rfl
    have z1 := zz.cell 1 rfl
    have z2 := zz.cell 2 rfl
    have z3 := zz.cell 3 rfl
    have z4 := zz.cell 4 rfl
    have z5 := zz.cell 5 rfl
    have z6 := zz.cell 6 rfl
    have z7 := zz.cell 7 rfl
    have z8 := zz.cell 8 rfl
    have z9 := zz.cell 9 rfl
    have z10 := zz.cell 10 rfl
    have f0 := zz.frozen 0
    have f1 := zz.frozen 1
    have f2 := zz.frozen 2
    have f3 := zz.frozen 3
    have f4 := zz.frozen 4
    have f5 := zz.frozen 5
    have f6 := zz.frozen 6
    have f7 := zz.frozen 7
    have f8 := zz.frozen 8
    have f9 := zz.frozen 9
    have f10 := zz.frozen 10
    clear k0 k1 k2 k3 k4 k5 k6 k7 k8 k9 k10 j1 j3 j4 j5 j6 j7 j8 j9 j10 k5b t5 z zz hW5 hb5 off3 off2
    rw [← HW5.out]
    go_wp2
    refine bodyPost_ret (v := .agg #[.int .i64 xc, .int .u64 word, .int .u64 vr, .int .i64 n.lv, .string n.lo, .string n.hi, .bool n.la, .int .i64 n.nx, .slice ka n.ks.length n.ks.length, .slice va n.vs.length n.vs.length, .slice ca n.cs.length n.cs.length]) (by simp [results, Try.results51, go_sem, *]) rfl ?_
    have ht := turn_w11 W5 G2 (.int .i64 xc) (.int .u64 word) (.int .u64 vr) (.int .i64 n.lv) (.string n.lo) (.string n.hi) (.bool n.la) (.int .i64 n.nx) (.slice ka n.ks.length n.ks.length) (.slice va n.vs.length n.vs.length) (.slice ca n.cs.length n.cs.length)
    exact ⟨ka, _, _, va, _, _, ca, _, _, rfl, HO5.out.turn HOF.out ht, HB5.out.trans (ht.below (fun j e => by rw [show j = G2 from e]; have := HG.out; omega) HB5.out.size)⟩
end Go.Proofs.Ytdbklklmpnlinaa

namespace Go.Proofs.Ytdbklklmpnlinaa
open Go.RowKit Go.Maps

/-- A row of the call's own has cells that stand. -/
theorem KsAt.news {P : Value → Value → Value → Kn → Prop} {w : World} {g o n c : Nat} {cs : List Kn} (h : KsAt P w (.slice (some ⟨g, o, none⟩) n c) cs) : ∃ ls, All2 (KL P) ls cs ∧ ls.flatten.length = cs.length * 11 ∧ (∀ u ∈ ls.flatten, u.oneCell' = true) ∧ ∀ j u, ls.flatten[j]? = some u → w.cell? ((⟨g, o, none⟩ : Addr).add j) = some u := by
  obtain ⟨ao', c', e, h1, h2, h3⟩ := h
  injection e with e1 e2 e3
  subst e2
  rcases Nat.eq_zero_or_pos cs.length with hz | hp
  · have : cs = [] := List.eq_nil_of_length_eq_zero hz
    subst this
    exact ⟨[], .nil, rfl, (fun u hu => by cases hu), (fun j u hu => by cases hu)⟩
  · obtain ⟨g', o', e4, hc⟩ := h3 hp
    rw [← e1] at e4
    injection e4 with e4
    injection e4 with e5 e6 _
    subst e5 e6
    have mk : ∀ n, n ≤ cs.length → ∃ ls, All2 (KL P) ls (cs.take n) ∧ ∀ j i, j < n → i < 11 → ls.flatten[j * 11 + i]? = w.cell? ⟨g, o + j * 11 + i, none⟩ := by
      intro n
      induction n with
      | zero => exact fun _ => ⟨[], .nil, fun j i h => absurd h (Nat.not_lt_zero _)⟩
      | succ n ih =>
        intro hn
        obtain ⟨ls, hls, hat⟩ := ih (by omega)
        obtain ⟨l, hl, hcc⟩ := hc n (by omega)
        have hfl := (ks_flat hls).1
        rw [List.length_take, Nat.min_eq_left (by omega)] at hfl
        refine ⟨ls ++ [l], ?_, fun j i hj hi => ?_⟩
        · rw [List.take_succ_eq_append_getElem (by omega), ← kAt_eq (by omega)]
          exact hls.append (.cons hl .nil)
        · rw [List.flatten_append, List.flatten_cons, List.flatten_nil, List.append_nil]
          by_cases e : j = n
          · subst e
            rw [List.getElem?_append_right (by omega), hfl, show j * 11 + i - j * 11 = i by omega]
            exact (hcc i hi).symm
          · rw [List.getElem?_append_left (by rw [hfl]; omega)]
            exact hat j i (by omega) hi
    obtain ⟨ls, hls, hat⟩ := mk cs.length (Nat.le_refl _)
    rw [List.take_length] at hls
    have hfl := ks_flat hls
    refine ⟨ls, hls, hfl.1, hfl.2.2.1, fun j u hu => ?_⟩
    have hj : j < cs.length * 11 := by rw [← hfl.1]; exact (List.getElem?_eq_some_iff.1 hu).1
    have h9 := hat (j / 11) (j % 11) (by omega) (Nat.mod_lt _ (by decide))
    rw [show j / 11 * 11 + j % 11 = j by omega] at h9
    have hjj : o + j / 11 * 11 + j % 11 = o + j := by omega
    have hadd : (⟨g, o, none⟩ : Addr).add j = ⟨g, o + j / 11 * 11 + j % 11, none⟩ := by
      rw [hjj]
      unfold Addr.add
      split <;> simp_all
    rw [hadd, ← h9]
    exact hu
set_option maxHeartbeats 1000000 in
set_option maxRecDepth 100000 in
theorem clone49_any (ao : Option Addr) (n c : Nat) (cs : List Kn) (P : Value → Value → Value → Kn → Prop) (w : World) (h : KsAt P w (.slice ao n c) cs) (hnil : ao = none → n = 0 ∧ c = 0) (hsp : ∀ a, ao = some a → ∃ g o, a = ⟨g, o, none⟩) (hn : n ≤ 1000000) :
    Calls Try.prog 49 #[.slice ao n c] w fun e w' => ∃ v, e = .returned v ∧ KsR P w' w.heap.size v cs ∧ Below w.heap.size w w' := by
  have q22 : ∀ (w : World) (a : Option Addr) (n c n' c' : Nat), (binOp .eql 22 (.slice a n c) (.slice none n' c')).run Try.prog w = .ok (.bool a.isNone) w := fun w a n c n' c' => Lib.run_eql_slice_nil w _ _ a n c n' c' Try.underlying22
  have u22 : ∀ w, Sem.run Try.prog (underlying 22) w = .ok (TypeDesc.slice 43) w := run_underlying Try.underlying22
  have hl := h.len.1
  cases ao with
  | none =>
    obtain ⟨rfl, rfl⟩ := hnil rfl
    have : cs = [] := List.eq_nil_of_length_eq_zero hl.symm
    subst this
    clear h hnil hsp hl
    go_enter Try.func49, Try.ntmps49
    go_wp2
    go_ret
    exact ⟨_, rfl, KsR.nil _ _ _, Below.refl _ _⟩
  | some ad =>
    obtain ⟨g, o, rfl⟩ := hsp ad rfl
    obtain ⟨ls, hls, hfl, hones, hnews⟩ := (h.keep (boxed_below w (.cells #[] 43))).news
    have HLS := Lib.hid (show _ ∧ _ ∧ _ ∧ _ from ⟨hls, hfl, hones, hnews⟩)
    obtain ⟨i0, hi, hz0, hz1, hz2⟩ := info_parts fvInfoKn
    have HIN := Lib.hid (show _ ∧ _ ∧ _ ∧ _ from ⟨hi, hz0, hz1, hz2⟩)
    have HL := Lib.hid hl
    clear h hnil hsp hl hls hfl hones hnews hi hz0 hz1 hz2
    go_enter Try.func49, Try.ntmps49
    go_wp2_with (at_builtin; refine wpList_append_own _ rfl _ _ 22 rfl w.heap.size 43 i0 (.agg #[.int .i64 0, .int .u64 0, .int .u64 0, .int .i64 0, .string ⟨#[]⟩, .string ⟨#[]⟩, .bool false, .int .i64 0, .slice none 0 0, .slice none 0 0, .slice none 0 0]) 11 152 Try.underlying22 HIN.out.1 HIN.out.2.1 HIN.out.2.2.1 HIN.out.2.2.2 rfl (by decide) _ _ _ rfl (World.ownsRow_made w #[] 0 (Nat.le_refl _) (Nat.zero_le _) rfl) ⟨g, o, none⟩ n c ls.flatten rfl (by rw [HLS.out.2.1, HL.out]) HLS.out.2.2.2 HLS.out.2.2.1 (by unfold maxLen; omega) (by omega) (by simp) ?_)
    intro v' w1 hown hgrow _
    have HO := Lib.hid (show w1.ownsRow w.heap.size 43 11 v' cs.length ls.flatten from by rw [← HL.out]; simpa using hown)
    have HG := Lib.hid (((Below.refl w.heap.size w).alloc (Nat.le_refl _) (.cells #[] 43)).grown hgrow (by simp) (by intro k hk; simp [Value.ownBlock] at hk; omega))
    clear hown hgrow
    go_wp2
    go_ret
    exact ⟨v', rfl, ⟨ls, HLS.out.1, HO.out⟩, HG.out⟩
end Go.Proofs.Ytdbklklmpnlinaa

namespace Go.Proofs.Ytdbklklmpnlinaa
open Go.RowKit Go.Maps

/-- Rows that read in an elder world, or new ones from it on. -/
def PX (w0 w : World) (kv vv cv : Value) (y : Kn) : Prop := PV w0 kv vv cv y ∨ NdO w w0.heap.size kv vv cv y.n
theorem PX.keep {w0 w w' : World} {kv vv cv : Value} {y : Kn} (h : PX w0 w kv vv cv y) (hb : Below w.heap.size w w') : PX w0 w' kv vv cv y := h.imp id (fun h => h.keep hb)
theorem PX.turn {S : Nat → Prop} {w0 w w' : World} {kv vv cv : Value} {y : Kn} (h : PX w0 w kv vv cv y) (hS : Off w S) (ht : Turn S w w') : PX w0 w' kv vv cv y := h.imp id (fun h => h.turn hS ht)
theorem PX.nd {w0 w : World} {ak av ac : Option Addr} {nk ck nv cv nc cc : Nat} {y : Kn} (h : PX w0 w (.slice ak nk ck) (.slice av nv cv) (.slice ac nc cc) y) (hb : Below w0.heap.size w0 w) : nk = y.n.ks.length ∧ nv = y.n.vs.length ∧ nc = y.n.cs.length ∧ NdAt w ak av ac nk ck nv cv nc cc y.n.ks y.n.vs y.n.cs := by
  rcases h with h | h
  · obtain ⟨ak', av', ac', ck', cv', cc', e, hN⟩ := h
    unfold Kn.val at e
    injection e with e
    injection e with e
    simp only [List.cons.injEq, and_true, true_and] at e
    obtain ⟨e1, e2, e3⟩ := e
    injection e1 with e11 e12 e13
    injection e2 with e21 e22 e23
    injection e3 with e31 e32 e33
    subst e11 e12 e13 e21 e22 e23 e31 e32 e33
    exact ⟨rfl, rfl, rfl, hN.keep hb⟩
  · obtain ⟨h1, _, h3, _, h5, _, h7⟩ := h.at_
    exact ⟨h1, h3, h5, h7⟩
/-- A row of Knowns that the call made: in a block of Knowns. -/
structure RowK (w0 w : World) (g n c : Nat) (l : List Kn) : Prop where
  at_ : KsAt (PX w0 w) w (.slice (some ⟨g, 0, none⟩) n c) l
  blk : ∃ cur, w.heap[g]? = some (.cells cur 43 (0, 0)) ∧ n * 11 ≤ cur.size
theorem RowK.keep {w0 w w' : World} {g n c : Nat} {l : List Kn} (h : RowK w0 w g n c l) (hb : Below w.heap.size w w') : RowK w0 w' g n c l := by
  obtain ⟨cur, h1, h2⟩ := h.blk
  refine ⟨?_, cur, (hb.block g (lt_of_block h1)).trans h1, h2⟩
  obtain ⟨ao, c', e, q1, q2, q3⟩ := KsAt.keep h.at_ hb
  refine ⟨ao, c', e, q1, q2, fun hp => ?_⟩
  obtain ⟨g', o, e2, hc⟩ := q3 hp
  exact ⟨g', o, e2, fun j hj => (hc j hj).imp fun l hl => ⟨hl.1.mono (fun _ _ _ hp => PX.keep hp hb), hl.2⟩⟩
/-- Eleven cells written, one behind the other. -/
def cur11 (cur : Array Value) (p : Nat) (v0 v1 v2 v3 v4 v5 v6 v7 v8 v9 v10 : Value) : Array Value := (((((((((((cur.setIfInBounds (p) v0).setIfInBounds (p + 1) v1).setIfInBounds (p + 2) v2).setIfInBounds (p + 3) v3).setIfInBounds (p + 4) v4).setIfInBounds (p + 5) v5).setIfInBounds (p + 6) v6).setIfInBounds (p + 7) v7).setIfInBounds (p + 8) v8).setIfInBounds (p + 9) v9).setIfInBounds (p + 10) v10)
theorem cur11_other {cur : Array Value} {p q : Nat} {v0 v1 v2 v3 v4 v5 v6 v7 v8 v9 v10 : Value} (h : q < p ∨ p + 11 ≤ q) : (cur11 cur p v0 v1 v2 v3 v4 v5 v6 v7 v8 v9 v10)[q]? = cur[q]? := by
  unfold cur11
  rw [Array.getElem?_setIfInBounds_ne (by omega), Array.getElem?_setIfInBounds_ne (by omega), Array.getElem?_setIfInBounds_ne (by omega), Array.getElem?_setIfInBounds_ne (by omega), Array.getElem?_setIfInBounds_ne (by omega), Array.getElem?_setIfInBounds_ne (by omega), Array.getElem?_setIfInBounds_ne (by omega), Array.getElem?_setIfInBounds_ne (by omega), Array.getElem?_setIfInBounds_ne (by omega), Array.getElem?_setIfInBounds_ne (by omega), Array.getElem?_setIfInBounds_ne (by omega)]
theorem cur11_at {cur : Array Value} {p t : Nat} {v0 v1 v2 v3 v4 v5 v6 v7 v8 v9 v10 : Value} (hs : p + 11 ≤ cur.size) (ht : t < 11) : (cur11 cur p v0 v1 v2 v3 v4 v5 v6 v7 v8 v9 v10)[p + t]? = [v0, v1, v2, v3, v4, v5, v6, v7, v8, v9, v10][t]? := by
  unfold cur11
  rcases (show t = 0 ∨ t = 1 ∨ t = 2 ∨ t = 3 ∨ t = 4 ∨ t = 5 ∨ t = 6 ∨ t = 7 ∨ t = 8 ∨ t = 9 ∨ t = 10 by omega) with rfl | rfl | rfl | rfl | rfl | rfl | rfl | rfl | rfl | rfl | rfl
  all_goals simp [Array.getElem?_setIfInBounds]
  all_goals omega
theorem turn_at11 (w : World) (g p : Nat) (v0 v1 v2 v3 v4 v5 v6 v7 v8 v9 v10 : Value) : Turn (fun j => j = g) w (((((((((((w.setCell ⟨g, p, none⟩ v0).setCell ⟨g, p + 1, none⟩ v1).setCell ⟨g, p + 2, none⟩ v2).setCell ⟨g, p + 3, none⟩ v3).setCell ⟨g, p + 4, none⟩ v4).setCell ⟨g, p + 5, none⟩ v5).setCell ⟨g, p + 6, none⟩ v6).setCell ⟨g, p + 7, none⟩ v7).setCell ⟨g, p + 8, none⟩ v8).setCell ⟨g, p + 9, none⟩ v9).setCell ⟨g, p + 10, none⟩ v10) :=
  Turn.setCell (S := fun j => j = g) (Turn.setCell (S := fun j => j = g) (Turn.setCell (S := fun j => j = g) (Turn.setCell (S := fun j => j = g) (Turn.setCell (S := fun j => j = g) (Turn.setCell (S := fun j => j = g) (Turn.setCell (S := fun j => j = g) (Turn.setCell (S := fun j => j = g) (Turn.setCell (S := fun j => j = g) (Turn.setCell (S := fun j => j = g) (Turn.setCell (S := fun j => j = g) (Turn.refl (fun j => j = g) w) (Or.inl rfl) v0) (Or.inl rfl) v1) (Or.inl rfl) v2) (Or.inl rfl) v3) (Or.inl rfl) v4) (Or.inl rfl) v5) (Or.inl rfl) v6) (Or.inl rfl) v7) (Or.inl rfl) v8) (Or.inl rfl) v9) (Or.inl rfl) v10
theorem RowK.wr {w0 w : World} {g n c i : Nat} {l : List Kn} {y : Kn} {ak av ac : Option Addr} {nk ck nv cw nn cn : Nat} (h : RowK w0 w g n c l) (hi : i < n) (hn : PX w0 w (.slice ak nk ck) (.slice av nv cw) (.slice ac nn cn) y) : RowK w0 (((((((((((w.setCell ⟨g, i * 11, none⟩ (.int .i64 y.c)).setCell ⟨g, i * 11 + 1, none⟩ (.int .u64 y.wd)).setCell ⟨g, i * 11 + 2, none⟩ (.int .u64 y.vr)).setCell ⟨g, i * 11 + 3, none⟩ (.int .i64 y.n.lv)).setCell ⟨g, i * 11 + 4, none⟩ (.string y.n.lo)).setCell ⟨g, i * 11 + 5, none⟩ (.string y.n.hi)).setCell ⟨g, i * 11 + 6, none⟩ (.bool y.n.la)).setCell ⟨g, i * 11 + 7, none⟩ (.int .i64 y.n.nx)).setCell ⟨g, i * 11 + 8, none⟩ (.slice ak nk ck)).setCell ⟨g, i * 11 + 9, none⟩ (.slice av nv cw)).setCell ⟨g, i * 11 + 10, none⟩ (.slice ac nn cn)) g n c (l.set i y) := by
  obtain ⟨cur, h1, h2⟩ := h.blk
  have ht := turn_at11 w g (i * 11) (.int .i64 y.c) (.int .u64 y.wd) (.int .u64 y.vr) (.int .i64 y.n.lv) (.string y.n.lo) (.string y.n.hi) (.bool y.n.la) (.int .i64 y.n.nx) (.slice ak nk ck) (.slice av nv cw) (.slice ac nn cn)
  have hcur : (((((((((((w.setCell ⟨g, i * 11, none⟩ (.int .i64 y.c)).setCell ⟨g, i * 11 + 1, none⟩ (.int .u64 y.wd)).setCell ⟨g, i * 11 + 2, none⟩ (.int .u64 y.vr)).setCell ⟨g, i * 11 + 3, none⟩ (.int .i64 y.n.lv)).setCell ⟨g, i * 11 + 4, none⟩ (.string y.n.lo)).setCell ⟨g, i * 11 + 5, none⟩ (.string y.n.hi)).setCell ⟨g, i * 11 + 6, none⟩ (.bool y.n.la)).setCell ⟨g, i * 11 + 7, none⟩ (.int .i64 y.n.nx)).setCell ⟨g, i * 11 + 8, none⟩ (.slice ak nk ck)).setCell ⟨g, i * 11 + 9, none⟩ (.slice av nv cw)).setCell ⟨g, i * 11 + 10, none⟩ (.slice ac nn cn)).heap[g]? = some (.cells (cur11 cur (i * 11) (.int .i64 y.c) (.int .u64 y.wd) (.int .u64 y.vr) (.int .i64 y.n.lv) (.string y.n.lo) (.string y.n.hi) (.bool y.n.la) (.int .i64 y.n.nx) (.slice ak nk ck) (.slice av nv cw) (.slice ac nn cn)) 43 (0, 0)) := heap_setCell_same _ g _ _ _ _ (heap_setCell_same _ g _ _ _ _ (heap_setCell_same _ g _ _ _ _ (heap_setCell_same _ g _ _ _ _ (heap_setCell_same _ g _ _ _ _ (heap_setCell_same _ g _ _ _ _ (heap_setCell_same _ g _ _ _ _ (heap_setCell_same _ g _ _ _ _ (heap_setCell_same _ g _ _ _ _ (heap_setCell_same _ g _ _ _ _ (heap_setCell_same _ g _ _ _ _ (h1)))))))))))
  obtain ⟨w', hw'⟩ : ∃ W, W = (((((((((((w.setCell ⟨g, i * 11, none⟩ (.int .i64 y.c)).setCell ⟨g, i * 11 + 1, none⟩ (.int .u64 y.wd)).setCell ⟨g, i * 11 + 2, none⟩ (.int .u64 y.vr)).setCell ⟨g, i * 11 + 3, none⟩ (.int .i64 y.n.lv)).setCell ⟨g, i * 11 + 4, none⟩ (.string y.n.lo)).setCell ⟨g, i * 11 + 5, none⟩ (.string y.n.hi)).setCell ⟨g, i * 11 + 6, none⟩ (.bool y.n.la)).setCell ⟨g, i * 11 + 7, none⟩ (.int .i64 y.n.nx)).setCell ⟨g, i * 11 + 8, none⟩ (.slice ak nk ck)).setCell ⟨g, i * 11 + 9, none⟩ (.slice av nv cw)).setCell ⟨g, i * 11 + 10, none⟩ (.slice ac nn cn)) := ⟨_, rfl⟩
  rw [← hw'] at ht hcur ⊢
  clear hw'
  have hoff : Off w (fun j => j = g) := fun g2 c2 t e hg => by
    rw [show g2 = g from e, h1] at hg
    injection hg with hg
    injection hg with _ e2 _
    rw [← e2]; decide
  have hin : i * 11 + 11 ≤ cur.size := by omega
  obtain ⟨ao, c', e, q1, q2, q3⟩ := h.at_
  have hlen : (l.set i y).length = l.length := List.length_set ..
  refine ⟨⟨ao, c', by rw [hlen]; exact e, by rw [hlen]; exact q1, q2, fun hp => ?_⟩, _, hcur, by unfold cur11; simpa using h2⟩
  rw [hlen] at hp
  obtain ⟨g', o, e2', hc⟩ := q3 hp
  injection e with ee1 ee2 ee3
  rw [← ee1] at e2'
  injection e2' with e2'
  injection e2' with eg eo _
  subst eg
  subst eo
  refine ⟨g, 0, ee1.symm, fun j hj => ?_⟩
  rw [hlen] at hj
  have old : ∀ q, w.cell? ⟨g, q, none⟩ = cur[q]? := fun q => by simp [World.cell?, h1]
  have new : ∀ q, w'.cell? ⟨g, q, none⟩ = (cur11 cur (i * 11) (.int .i64 y.c) (.int .u64 y.wd) (.int .u64 y.vr) (.int .i64 y.n.lv) (.string y.n.lo) (.string y.n.hi) (.bool y.n.la) (.int .i64 y.n.nx) (.slice ak nk ck) (.slice av nv cw) (.slice ac nn cn))[q]? := fun q => by simp [World.cell?, hcur]
  have hat : kAt (l.set i y) j = if i = j then y else kAt l j := by
    unfold kAt
    rw [List.getD_eq_getElem?_getD, List.getD_eq_getElem?_getD, List.getElem?_set]
    by_cases e : i = j
    · subst e
      rw [if_pos rfl, if_pos hj, if_pos rfl]
      rfl
    · rw [if_neg e, if_neg e]
  by_cases hji : i = j
  · subst hji
    rw [hat, if_pos rfl]
    refine ⟨_, ⟨ak, nk, ck, av, nv, cw, ac, nn, cn, rfl, hn.turn hoff ht⟩, fun q hq => ?_⟩
    rw [new, show 0 + i * 11 + q = i * 11 + q by omega, cur11_at (by omega) hq]
    rcases (show q = 0 ∨ q = 1 ∨ q = 2 ∨ q = 3 ∨ q = 4 ∨ q = 5 ∨ q = 6 ∨ q = 7 ∨ q = 8 ∨ q = 9 ∨ q = 10 by omega) with rfl | rfl | rfl | rfl | rfl | rfl | rfl | rfl | rfl | rfl | rfl <;> rfl
  · rw [hat, if_neg hji]
    obtain ⟨l2, ⟨ak1, nk1, ck1, av1, nv1, cv1, ac1, nn1, cn1, rfl, hP⟩, hcc⟩ := hc j hj
    refine ⟨_, ⟨ak1, nk1, ck1, av1, nv1, cv1, ac1, nn1, cn1, rfl, hP.turn hoff ht⟩, fun q hq => ?_⟩
    rw [new, cur11_other (by omega), ← old, hcc q hq]
theorem KsR.rowK {w0 w : World} {C : Nat} {v : Value} {ks : List Kn} (h : KsR (PV w0) w C v ks) : (v = .slice none 0 0 ∧ ks = []) ∨ ∃ g c, v = .slice (some ⟨g, 0, none⟩) ks.length c ∧ C ≤ g ∧ RowK w0 w g ks.length c ks := by
  have hat := (h.mono (Q := PX w0 w) (fun _ _ _ _ hp => Or.inl hp)).ks
  obtain ⟨ls, h1, h2⟩ := h
  rcases h2.2 with ⟨rfl, hz⟩ | ⟨g, cap, cur, rfl, hbg, hg, hc1, hc2, hc3, hc4⟩
  · exact Or.inl ⟨rfl, List.eq_nil_of_length_eq_zero hz⟩
  · refine Or.inr ⟨g, cap, rfl, hbg, hat, cur, hg, ?_⟩
    rw [hc3]
    exact Nat.mul_le_mul_right 11 hc1

/-- What a cell has behind the first i changes. -/
def outAt (cs : List Ch) (word : Nat) (y : Kn) (i : Nat) : Kn := if lastC cs y.c i = -1 then y else behF (cAt cs (lastC cs y.c i).toNat) ((word + (lastC cs y.c i).toNat : Nat) : Int)
def outL (cs : List Ch) (word : Nat) (ks : List Kn) (i : Nat) : List Kn := ks.map (fun y => outAt cs word y i)
theorem outAt_c (cs : List Ch) (word : Nat) (y : Kn) (i : Nat) : (outAt cs word y i).c = y.c := by
  unfold outAt
  rcases lastC_is cs y.c i with ⟨h, _⟩ | ⟨j, h, h2, h3, _⟩
  · rw [if_pos h]
  · rw [h, if_neg (by omega), Int.toNat_natCast]
    exact h3
theorem kAt_outL {cs : List Ch} {word : Nat} {ks : List Kn} {i p : Nat} (hp : p < ks.length) : kAt (outL cs word ks i) p = outAt cs word (kAt ks p) i := by
  unfold outL
  rw [kAt_eq (by rw [List.length_map]; exact hp), List.getElem_map, kAt_eq hp]
/-- Changes that fit, of cells: each asks for what its cell has. -/
def GoodCh (ks : List Kn) (cs : List Ch) : Prop := ∀ i, i < cs.length → ∃ p, p < ks.length ∧ (kAt ks p).c = (cAt cs i).c ∧
  ((lastC cs (cAt cs i).c i = -1 ∧ (cAt cs i).fr = -1 ∧ (kAt ks p).wd = (cAt cs i).wd ∧ (kAt ks p).vr = (cAt cs i).vr ∧ ((cAt cs i).em = true → (cAt cs i).wd ≠ 0)) ∨
   ∃ j : Nat, lastC cs (cAt cs i).c i = j ∧ (cAt cs i).fr = j ∧ (cAt cs j).em = false ∧ (cAt cs i).vr = IntKind.u64.wrap ((cAt cs j).vr + 1))
/-- No two of one cell. -/
def Apart9 (ks : List Kn) : Prop := ∀ p q, p < ks.length → q < ks.length → (kAt ks p).c = (kAt ks q).c → p = q
theorem outL_more {cs : List Ch} {word : Nat} {ks : List Kn} {i p : Nat} (hd : Apart9 ks) (hp : p < ks.length) (hc : (kAt ks p).c = (cAt cs i).c) : outL cs word ks (i + 1) = (outL cs word ks i).set p (behF (cAt cs i) ((word + i : Nat) : Int)) := by
  apply List.ext_getElem?
  intro q
  rw [List.getElem?_set]
  by_cases hq : q < ks.length
  · have e1 : (outL cs word ks (i + 1))[q]? = some (outAt cs word (kAt ks q) (i + 1)) := by
      unfold outL
      rw [List.getElem?_map, List.getElem?_eq_getElem hq, ← kAt_eq hq]
      rfl
    have e2 : (outL cs word ks i)[q]? = some (outAt cs word (kAt ks q) i) := by
      unfold outL
      rw [List.getElem?_map, List.getElem?_eq_getElem hq, ← kAt_eq hq]
      rfl
    rw [e1, e2]
    by_cases e : p = q
    · subst e
      rw [if_pos rfl, if_pos (by unfold outL; rw [List.length_map]; exact hp)]
      unfold outAt
      have hl : lastC cs (kAt ks p).c (i + 1) = i := by
        show (if (cAt cs i).c = (kAt ks p).c then _ else _) = _
        rw [if_pos hc.symm]
      rw [hl, if_neg (by omega), Int.toNat_natCast]
    · rw [if_neg e]
      unfold outAt
      have hl : lastC cs (kAt ks q).c (i + 1) = lastC cs (kAt ks q).c i := by
        show (if (cAt cs i).c = (kAt ks q).c then _ else _) = _
        rw [if_neg (fun e2 => e (hd p q hp hq (hc.trans e2)))]
      rw [hl]
  · have hl1 : (outL cs word ks (i + 1)).length = ks.length := by unfold outL; rw [List.length_map]
    have hl2 : (outL cs word ks i).length = ks.length := by unfold outL; rw [List.length_map]
    rw [List.getElem?_eq_none (by omega)]
    by_cases e : p = q
    · omega
    · rw [if_neg e, List.getElem?_eq_none (by omega)]
end Go.Proofs.Ytdbklklmpnlinaa

namespace Go.Proofs.Ytdbklklmpnlinaa
open Go.RowKit

set_option maxHeartbeats 1000000 in
theorem range_goes2 {F : Fence} {n : Nat} {P : Program} {α : Type} {g : Operand} {ps : Array Tmp} {assign body : Code} {Q : Exit → Act → World → Prop} {a : Act} {w : World}
    (hro : F.round = none) (h1 : 1 ≤ n) {gf : Nat} {lb : Array Value} (hg : a.eval g = .func (.func gf) #[] lb) (hFg : F.fn gf) (eg : ∀ args w, (callFunc gf args).run P w = .ok (.enter gf args) w)
    {encs : α → Array Value} {Kp : World → World → Prop} {S : List α → Prop} {N : Nat} (hseq : SeqC F (n - 1) P gf lb encs Kp S N w)
    (hKt : ∀ {A B C : World}, Kp A B → Kp B C → Kp A C) (hKb : ∀ (W : World) (l : Nat) (o o' : Obj), w.heap.size ≤ l → W.heap[l]? = some o → o.isCells = false → o.isWalk = false → Kp W (W.putObj l o')) (hps : ∀ x, (encs x).size = ps.size)
    (I : List α → World → Prop) (hI : ∀ s A C, I s A → Below w.heap.size A C → I s C) (h0 : I [] w) (a₁ : α → World → Act) (w₁ : α → World → World) (hw1 : ∀ x W, Below W.heap.size W (w₁ x W)) (hk1 : ∀ x W, w.heap.size ≤ W.heap.size → Kp W (w₁ x W))
    (Q2 : α → World → World → Prop) (hq1 : ∀ x W, w.heap.size ≤ W.heap.size → Q2 x W (w₁ x W)) (hq2 : ∀ x W V (l : Nat) (o o' : Obj), Q2 x W V → V.heap[l]? = some o → o.isCells = false → Q2 x W (V.putObj l o'))
    (hassign : ∀ (l : Nat) (x : α) (W : World) (K : Act → World → Prop), K (a₁ x W) (w₁ x W) →
      assign.wpIn (F.inRound l) (n - 1 - 1) P (Exit.then K (fun _ _ _ => False)) { tmps := (ps.zip (encs x)).foldl (fun t (p, v) => t.setIfInBounds p v) a.tmps, defers := [] } W)
    (hbody : ∀ (l : Nat) (pre : List α) (x : α) (A W : World), I pre W → Q2 x A W → w.heap.size ≤ A.heap.size → pre.length < N → body.wpIn (F.inRound l) (n - 1 - 1) P (goesOut w.heap.size Kp (I (pre ++ [x])) W) (a₁ x A) W)
    (hdone : ∀ (D : Nat) (xs : List α) (W : World), w.heap.size ≤ D → S xs → I xs W → W.heap[D]? = some (.deferred (some [])) → Q .normal { a with defers := { target := .collected D, args := #[] } :: a.defers } W) :
    (Code.rangeFunc g ps assign body).wpIn F n P Q a w := by
  refine wpIn_rangeFunc (fun fn hfn => ?_)
  rw [hro]
  obtain ⟨D, hD⟩ : ∃ D, D = w.heap.size := ⟨_, rfl⟩
  obtain ⟨rc, hrc⟩ : ∃ rc : LoopState → Loop, rc = fun st => { state := st, pending := none, fn, tmps := a.tmps, params := ps, assign, body, defers := D } := ⟨_, rfl⟩
  have hent := run_enterLoop_outer (P := P) (w := w) fn a.tmps ps assign body
  rw [← hD] at hent
  rw [show ({ state := .ready, pending := none, fn, tmps := a.tmps, params := ps, assign, body, defers := D } : Loop) = rc .ready from by rw [hrc]] at hent
  obtain ⟨V, hV⟩ : ∃ V, V = (w.alloc (.deferred (some []))).alloc (.loop (rc .ready)) := ⟨_, rfl⟩
  rw [← hV] at hent
  have sV : V.heap.size = D + 1 + 1 := by rw [hV, World.size_alloc, World.size_alloc, hD]
  have vL : V.heap[D + 1]? = some (.loop (rc .ready)) := by
    have h := World.alloc_heap_new (w.alloc (.deferred (some []))) (.loop (rc .ready))
    rw [World.size_alloc, ← hD] at h
    rw [hV]
    exact h
  have vD : V.heap[D]? = some (.deferred (some [])) := by
    rw [hV]
    exact (Below.heap_alloc _ _ _ (by rw [World.size_alloc, ← hD]; omega)).trans (by rw [hD]; exact World.alloc_heap_new w _)
  have vB : Below w.heap.size w V := by
    rw [hV]
    exact ((Below.refl _ w).alloc (Nat.le_refl _) _).alloc (by rw [World.size_alloc]; omega) _
  refine ⟨D + 1, _, V, { target := .fn (.func gf) lb, args := #[.func (.yield (D + 1)) #[] #[]] }, V, gf, #[.func (.yield (D + 1)) #[] #[]] ++ lb, V, hent, ?_, ?_, ?_, fun _ => h1, ?_⟩
  · simp only [resolve, hg]
    simp [go_sem]
  · intro f' hf'
    simp [Target.leads] at hf'
    subst hf'
    exact hFg
  · simp [invoke, go_sem, eg]
  · refine (hseq (D + 1) (fun pre W => I pre W ∧ W.heap[D + 1]? = some (.loop (rc .ready)) ∧ W.heap[D]? = some (.deferred (some []))) V vB ?_ ?_ ⟨hI _ _ _ h0 vB, vL, vD⟩).mono ?_
    · rintro s A C ⟨i1, i2, i3⟩ hs
      exact ⟨hI _ _ _ i1 (hs.b.mono (by omega)), hs.o _ _ i2 rfl rfl, hs.o _ _ i3 rfl rfl⟩
    · rintro pre x A ⟨i1, i2, i3⟩ hlen
      have lA : D + 1 < A.heap.size := (Array.getElem?_eq_some_iff.1 i2).1
      have hy := run_yield (P := P) (args := encs x) i2 (by rw [hrc]; exact hps x)
      rw [hrc] at hy
      refine ⟨fn, _, assign, body, hy, roundIn_of_wpIn hfn (hassign _ x A _ ?_)⟩
      have hA0 : w.heap.size ≤ A.heap.size := by omega
      have b1 := hw1 x A
      have i2' : (w₁ x A).heap[D + 1]? = some (.loop (rc .ready)) := (b1.block _ lA).trans i2
      have i3' : (w₁ x A).heap[D]? = some (.deferred (some [])) := (b1.block _ (by omega)).trans i3
      have lA' : D + 1 < (w₁ x A).heap.size := (Array.getElem?_eq_some_iff.1 i2').1
      refine ⟨_, run_beginRound i2' (by rw [hrc]), ?_⟩
      obtain ⟨A2, hA2⟩ : ∃ A2, A2 = (w₁ x A).putObj (D + 1) (.loop { rc .ready with state := .busy }) := ⟨_, rfl⟩
      have aL : A2.heap[D + 1]? = some (.loop { rc .ready with state := .busy }) := by rw [hA2]; exact World.putObj_heap_same lA'
      have aD : A2.heap[D]? = some (.deferred (some [])) := by rw [hA2]; exact (World.putObj_heap_other (by omega)).trans i3'
      have aK : Kp A A2 := by rw [hA2]; exact hKt (hk1 x A hA0) (hKb _ _ _ _ (by omega) i2' rfl rfl)
      have aQ : Q2 x A A2 := by rw [hA2]; exact hq2 x A _ _ _ _ (hq1 x A hA0) i2' rfl
      have aB : Below w.heap.size A A2 := by
        rw [hA2]
        exact (b1.mono hA0).trans ((Below.refl _ (w₁ x A)).grown (grownBy_putObj' (w₁ x A) _ _) (by have := b1.size; omega) (fun k e => by cases e; omega))
      rw [← hA2]
      refine wpIn_mono (hbody _ pre x A A2 (hI _ _ _ i1 aB) aQ hA0 hlen) ?_
      intro e a3 C hp
      cases e with
      | normal =>
        obtain ⟨c1, c2, c3⟩ := hp
        have cL := c1.same _ _ (by omega) aL rfl
        have cD := c1.same _ _ (by omega) aD rfl
        have lC : D + 1 < C.heap.size := (Array.getElem?_eq_some_iff.1 cL).1
        have hr := run_endRound (P := P) none cL
        have cB : Below w.heap.size C (C.putObj (D + 1) (.loop (rc .ready))) := (Below.refl _ C).grown (grownBy_putObj' C _ _) (by omega) (fun k e => by cases e; omega)
        have hrr : ({ ({ rc .ready with state := .busy } : Loop) with state := .ready, pending := none } : Loop) = rc .ready := by rw [hrc]
        refine ⟨_, _, hr, ?_⟩
        show _ ∧ _ ∧ _
        refine ⟨rfl, ⟨?_, ?_, ?_⟩, ?_⟩
        · exact hI _ _ _ c3 (by simpa [hrc] using cB)
        · simpa [hrc] using World.putObj_heap_same (o := .loop (rc .ready)) lC
        · exact (World.putObj_heap_other (by omega)).trans cD
        · exact hKt aK (hKt c2 (hKb _ _ _ _ (by omega) cL rfl rfl))
      | ret => exact hp.elim
      | exit id => exact hp.elim
      | goto t => exact hp.elim
      | panic ch => exact hp.elim
      | outgrown => exact hp.elim
    · rintro e C ⟨⟨v, rfl⟩, xs, hS, i1, i2, i3⟩
      have lC : D + 1 < C.heap.size := (Array.getElem?_eq_some_iff.1 i2).1
      obtain ⟨r, hr⟩ : ∃ r, r = rc .ready := ⟨_, rfl⟩
      rw [← hr] at i2
      have hp0 : r.pending = none := by rw [hr, hrc]
      have he := run_endLoop (P := P) i2 (by rw [hr, hrc]; simp)
      have cB : ∀ o, Below w.heap.size C (C.putObj (D + 1) o) := fun o => (Below.refl _ C).grown (grownBy_putObj' C _ _) (by omega) (fun k e => by cases e; omega)
      refine ⟨none, C.putObj (D + 1) (.loop { r with state := .exhausted }), he.trans (by rw [hp0]), ?_⟩
      exact hdone D xs _ (by omega) hS (hI _ _ _ i1 (cB _)) ((World.putObj_heap_other (by omega)).trans i3)
end Go.Proofs.Ytdbklklmpnlinaa

namespace Go.Proofs.Ytdbklklmpnlinaa
open Go.RowKit Go.Maps Go.Shelf
attribute [local go_sem] Oper.semAt_some

theorem back_seq (n : Nat) (hn : 1 ≤ n) (g1 b : Nat) (ao : Option Addr) (nc cc : Nat) (ks : List Kn) (P : Value → Value → Value → Kn → Prop) (w : World) (h1 : BX w g1 22 #[.slice ao nc cc]) (hks : KsAt P w (.slice ao nc cc) ks) (hne : g1 ≠ b) (hrow : ∀ g o, ao = some ⟨g, o, none⟩ → g ≠ b) :
    SeqC Fence.wide n Try.prog 85 #[.pointer (some ⟨g1, 0, none⟩)] (fun x : PlV ks => #[.int .i64 (x.1.1 : Nat), x.1.2]) (Kept b) (fun xs => plL xs = bwd ks.length ks.length) ks.length w := fun l J W hW hab hY h0 =>
  back_in n hn l g1 b ao nc cc ks P W J hab hY (h1.below hW) (hks.keep hW) hne hrow h0
theorem backIt_any (ao : Option Addr) (n c : Nat) (w : World) : Calls Try.prog 48 #[.slice ao n c] w fun e w' => e = .returned (.func (.func 85) #[] #[.pointer (some ⟨w.heap.size, 0, none⟩)]) ∧ w' = w.alloc (.cells #[.slice ao n c] 22) := by
  go_enter Try.func48, Try.ntmps48
  go_wp2
  go_ret
  exact ⟨rfl, rfl⟩
/-- The place that a map has of a cell, once these places have come. -/
def fPl (ks : List Kn) (l : List Nat) (c : Int) : Option Nat := l.reverse.find? (fun p => decide ((kAt ks p).c = c))
theorem fPl_more (ks : List Kn) (l : List Nat) (p : Nat) : fPl ks (l ++ [p]) = fun c => if c = (kAt ks p).c then some p else fPl ks l c := by
  funext c
  unfold fPl
  rw [List.reverse_append, List.reverse_singleton, List.singleton_append, List.find?_cons]
  by_cases e : c = (kAt ks p).c
  · rw [if_pos e, decide_eq_true e.symm]
  · rw [if_neg e, decide_eq_false (fun h => e h.symm)]
theorem fPl_has {ks : List Kn} (hd : ∀ p q, p < ks.length → q < ks.length → (kAt ks p).c = (kAt ks q).c → p = q) {p : Nat} (hp : p < ks.length) : fPl ks (bwd ks.length ks.length) (kAt ks p).c = some p := by
  unfold fPl
  have hmem : ∀ q, q ∈ (bwd ks.length ks.length).reverse ↔ q < ks.length := fun q => by
    rw [List.mem_reverse]
    unfold bwd
    rw [List.mem_map]
    constructor
    · rintro ⟨j, hj, rfl⟩
      have := List.mem_range.1 hj
      omega
    · intro h
      exact ⟨ks.length - 1 - q, List.mem_range.2 (by omega), by omega⟩
  cases e : (bwd ks.length ks.length).reverse.find? (fun q => decide ((kAt ks q).c = (kAt ks p).c)) with
  | none =>
    have := List.find?_eq_none.1 e p ((hmem p).2 hp)
    simp at this
  | some q =>
    have h1 := List.find?_some e
    have h2 := List.mem_of_find?_eq_some e
    rw [hd q p ((hmem q).1 h2) hp (by simpa using h1)]
/-- Between two places. -/
structure AI (w A : World) (ks : List Kn) (G8 b : Nat) (pre : List Nat) : Prop where
  bx : BX A G8 86 #[.map (some b)]
  pm : PM A b pre.length (fPl ks pre)
  bl : Below w.heap.size w A
theorem AI.below {w A C : World} {ks : List Kn} {G8 b B : Nat} {pre : List Nat} (h : AI w A ks G8 b pre) (h8 : G8 < B) (hb8 : b < B) (hw : w.heap.size ≤ B) (hb : Below B A C) : AI w C ks G8 b pre :=
  ⟨(hb.block _ h8).trans h.bx, h.pm.block (hb.block _ hb8), h.bl.trans (hb.mono hw)⟩
/-- The cells of a struct's value. -/
def aggA : Value → Array Value
  | .agg a => a
  | _ => #[]
/-- Between two changes. -/
structure AS (w0 w wr : World) (ks : List Kn) (cs : List Ch) (word : Nat) (G8 b D g c N i : Nat) : Prop where
  row : RowK w0 wr g ks.length c (outL cs word ks i)
  bx : BX wr G8 86 #[.map (some b)]
  pm : PM wr b N (fPl ks (bwd ks.length ks.length))
  bl : Below w.heap.size w wr
  df : wr.heap[D]? = some (.deferred (some []))
  ge : w.heap.size ≤ g
theorem AS.keep {w0 w wr w' : World} {ks : List Kn} {cs : List Ch} {word G8 b D g c N i : Nat} (h : AS w0 w wr ks cs word G8 b D g c N i) (hb : Below wr.heap.size wr w') : AS w0 w w' ks cs word G8 b D g c N i :=
  ⟨h.row.keep hb, h.bx.below hb, h.pm.keep hb, h.bl.trans (hb.mono h.bl.size), (hb.block D (Array.getElem?_eq_some_iff.1 h.df).1).trans h.df, h.ge⟩
theorem AS.drew {w0 w wr : World} {ks : List Kn} {cs : List Ch} {word G8 b D g c N i : Nat} (h : AS w0 w wr ks cs word G8 b D g c N i) : AS w0 w wr.drew ks cs word G8 b D g c N i := h.keep ((Below.refl _ wr).drew)
theorem AS.step {w0 w wb : World} {ks : List Kn} {cs : List Ch} {word G8 b D g c N i p : Nat} {z : Kn} {ak av ac : Option Addr} {nk ck nv cw nn cn : Nat} (h : AS w0 w wb ks cs word G8 b D g c N i) (hp : p < ks.length) (hc : (kAt ks p).c = (cAt cs i).c) (hd : Apart9 ks) (hn : NdO wb w0.heap.size (.slice ak nk ck) (.slice av nv cw) (.slice ac nn cn) z.n) (hz : z = behF (cAt cs i) ((word + i : Nat) : Int)) : AS w0 w (((((((((((wb.setCell ⟨g, p * 11, none⟩ (.int .i64 z.c)).setCell ⟨g, p * 11 + 1, none⟩ (.int .u64 z.wd)).setCell ⟨g, p * 11 + 2, none⟩ (.int .u64 z.vr)).setCell ⟨g, p * 11 + 3, none⟩ (.int .i64 z.n.lv)).setCell ⟨g, p * 11 + 4, none⟩ (.string z.n.lo)).setCell ⟨g, p * 11 + 5, none⟩ (.string z.n.hi)).setCell ⟨g, p * 11 + 6, none⟩ (.bool z.n.la)).setCell ⟨g, p * 11 + 7, none⟩ (.int .i64 z.n.nx)).setCell ⟨g, p * 11 + 8, none⟩ (.slice ak nk ck)).setCell ⟨g, p * 11 + 9, none⟩ (.slice av nv cw)).setCell ⟨g, p * 11 + 10, none⟩ (.slice ac nn cn)) ks cs word G8 b D g c N (i + 1) := by
  have hr := h.row.wr (i := p) (y := z) hp (Or.inr hn)
  have ht := turn_at11 wb g (p * 11) (.int .i64 z.c) (.int .u64 z.wd) (.int .u64 z.vr) (.int .i64 z.n.lv) (.string z.n.lo) (.string z.n.hi) (.bool z.n.la) (.int .i64 z.n.nx) (.slice ak nk ck) (.slice av nv cw) (.slice ac nn cn)
  obtain ⟨cur, hcur, _⟩ := h.row.blk
  refine ⟨?_, ?_, ?_, ?_, ?_, h.ge⟩
  · rw [outL_more hd hp hc, ← hz]
    exact hr
  · refine (ht.block G8 (lt_of_block h.bx) (fun e => ?_)).trans h.bx
    rw [← show G8 = g from e] at hcur
    exact absurd (h.bx.type9 hcur) (by decide)
  · refine h.pm.block (ht.block b h.pm.lt (fun e => ?_))
    rw [← show b = g from e] at hcur
    exact h.pm.nocells _ _ hcur
  · exact h.bl.trans (ht.below (fun j e => by rw [show j = g from e]; exact h.ge) h.bl.size)
  · refine (ht.block D (Array.getElem?_eq_some_iff.1 h.df).1 (fun e => ?_)).trans h.df
    rw [← show D = g from e, h.df] at hcur
    cases hcur
theorem RowK.turn {S : Nat → Prop} {w0 w w' : World} {g n c : Nat} {l : List Kn} (h : RowK w0 w g n c l) (hoff : Off w S) (ht : Turn S w w') (hg : ¬ S g) : RowK w0 w' g n c l := by
  obtain ⟨cur, h1, h2⟩ := h.blk
  have e := ht.block g (lt_of_block h1) hg
  refine ⟨?_, cur, e.trans h1, h2⟩
  obtain ⟨ao, c', e0, q1, q2, q3⟩ := h.at_
  refine ⟨ao, c', e0, q1, q2, fun hp => ?_⟩
  obtain ⟨g', o, e2, hc⟩ := q3 hp
  injection e0 with ee1 _ _
  rw [← ee1] at e2
  injection e2 with e2
  injection e2 with eg eo _
  subst eg
  subst eo
  refine ⟨g, 0, ee1.symm, fun j hj => (hc j hj).imp fun l hl => ⟨hl.1.mono (fun _ _ _ hp => hp.turn hoff ht), fun i hi => ?_⟩⟩
  rw [← hl.2 i hi]
  simp [World.cell?, e]
theorem AS.put {w0 w wb : World} {ks : List Kn} {cs : List Ch} {word G8 b D g c N i : Nat} (h : AS w0 w wb ks cs word G8 b D g c N i) (o : Obj) : KsAt (PX w0 (wb.putObj D o)) (wb.putObj D o) (.slice (some ⟨g, 0, none⟩) ks.length c) (outL cs word ks i) := by
  have ht : Turn (fun j => j = D) wb (wb.putObj D o) := (Turn.refl _ wb).grown (grownBy_putObj' wb D o) (fun k hk => by injection hk with hk; exact Or.inl hk.symm)
  refine (h.row.turn (fun g2 c2 t e hg => ?_) ht (fun e => ?_)).at_
  · rw [show g2 = D from e, h.df] at hg
    cases hg
  · obtain ⟨cur, hcur, _⟩ := h.row.blk
    rw [show g = D from e, h.df] at hcur
    cases hcur
set_option maxHeartbeats 4000000 in
set_option maxRecDepth 100000 in
theorem apply_any (w0 : World) (ao : Option Addr) (n c : Nat) (ks : List Kn) (co : Option Addr) (cn cc : Nat) (cs : List Ch) (B word : Nat) (w : World) (hb0 : Below w0.heap.size w0 w) (hks : KsAt (PV w0) w (.slice ao n c) ks) (hwf : ∀ p, p < ks.length → (Lit.int .i64 (kAt ks p).c).wf = true) (hn : n ≤ 1000000) (hao : ∀ g o, ao = some ⟨g, o, none⟩ → g < w.heap.size) (hnil : ao = none → n = 0 ∧ c = 0) (hsp : ∀ a, ao = some a → ∃ g o, a = ⟨g, o, none⟩)
    (hcs : CsAt (PC w B) w (.slice co cn cc) cs) (hd : Apart9 ks) (hgood : GoodCh ks cs) (hcl : cs.length ≤ 1000) (hw1 : 0 < word) (hw2 : word ≤ 1099511627776) :
    Calls Try.prog 21 #[.slice ao n c, .slice co cn cc, .int .u64 (word : Nat)] w fun e w' => ∃ (ao' : Option Addr) (c' : Nat), e = .returned (.tuple #[.slice ao' n c', .bool true]) ∧ KsAt (PX w0 w') w' (.slice ao' n c') (outL cs word ks cs.length) ∧ (∀ a, ao' = some a → ∃ g, a = ⟨g, 0, none⟩ ∧ w.heap.size ≤ g) ∧ Below w.heap.size w w' := by
  have hmk : ∀ W, (Instr.makeMap 86 none).run Try.prog W = .ok (.map (some W.heap.size)) (W.alloc (.map #[] 0)) := fun W => run_makeMap _ W
  obtain ⟨b, hbb⟩ : ∃ g, g = w.heap.size := ⟨_, rfl⟩
  have b1 := boxed_below w (.map #[] 0)
  have m1 := PM.made w
  obtain ⟨W1, hW1⟩ : ∃ W, W = w.alloc (.map #[] 0) := ⟨_, rfl⟩
  have s1 : W1.heap.size = w.heap.size + 1 := by rw [hW1]; exact World.size_alloc _ _
  rw [← hW1] at b1 m1
  rw [← hbb] at m1
  obtain ⟨G8, hG8⟩ : ∃ g, g = W1.heap.size := ⟨_, rfl⟩
  have b2 := boxed_below W1 (.cells #[.map (some b)] 86)
  have x2 := BX.new W1 86 #[.map (some b)]
  obtain ⟨W2, hW2⟩ : ∃ W, W = W1.alloc (.cells #[.map (some b)] 86) := ⟨_, rfl⟩
  have s2 : W2.heap.size = W1.heap.size + 1 := by rw [hW2]; exact World.size_alloc _ _
  rw [← hW2] at b2 x2
  rw [← hG8] at x2
  obtain ⟨G1, hG1⟩ : ∃ g, g = W2.heap.size := ⟨_, rfl⟩
  have b3 := boxed_below W2 (.cells #[.slice ao n c] 22)
  have x3 := BX.new W2 22 #[.slice ao n c]
  obtain ⟨W3, hW3⟩ : ∃ W, W = W2.alloc (.cells #[.slice ao n c] 22) := ⟨_, rfl⟩
  have s3 : W3.heap.size = W2.heap.size + 1 := by rw [hW3]; exact World.size_alloc _ _
  rw [← hW3] at b3 x3
  rw [← hG1] at x3
  have b13 := b2.trans (b3.mono b2.size)
  have b03 := b1.trans (b13.mono b1.size)
  have HSEQ := Lib.hid (fun m hm => back_seq m hm G1 b ao n c ks _ W3 x3 (hks.keep b03) (by omega) (fun g o e => by have := hao g o e; omega))
  have HAI := Lib.hid (show AI w W3 ks G8 b [] from ⟨x2.below b3, by rw [show (fPl ks []) = (fun _ => none) from rfl]; exact (m1.keep b2).keep b3, b03⟩)
  have HLT := Lib.hid (show w.heap.size ≤ b ∧ b < W3.heap.size ∧ G8 < W3.heap.size ∧ w.heap.size ≤ W3.heap.size ∧ b ≠ G8 from ⟨by omega, by omega, by omega, by omega, by omega⟩)
  have HIT := Lib.hid (backIt_any ao n c W2)
  have HW2 := Lib.hid (show b = w.heap.size ∧ G8 = b + 1 ∧ (w.alloc (.map #[] 0)).alloc (.cells #[.map (some b)] 86) = W2 ∧ G1 = W2.heap.size ∧ W3 = _ from ⟨hbb, by omega, by rw [hW2, hW1], hG1, hW3⟩)
  have HWF := Lib.hid hwf
  have HKL := Lib.hid hks.len
  have HKS := Lib.hid (show _ ∧ _ ∧ _ from ⟨hks, hnil, hsp⟩)
  have HCS := Lib.hid hcs
  have HD := Lib.hid hd
  have HGD := Lib.hid hgood
  have HWD := Lib.hid (show 0 < word ∧ word ≤ 1099511627776 ∧ cs.length ≤ 1000 from ⟨hw1, hw2, hcl⟩)
  have H0 := Lib.hid hb0
  have HN := Lib.hid hn
  clear hbb b1 m1 hW1 s1 hG8 b2 x2 hW2 s2 hG1 b3 x3 hW3 s3 b13 b03 hb0 hks hwf hao hnil hsp hcs hd hgood hcl hw1 hw2 hn
  refine (callsIn_wide (n := 3)).1 ?_
  refine callsIn_of_wp_marks Try.func21 rfl trivial ?_ rfl
  simp only [Try.ntmps21, List.size_toArray, List.length_cons, List.length_nil, Nat.reduceAdd, Nat.reduceSub, Array.replicate_succ, Array.replicate_zero, List.push_toArray, List.append_toArray, List.nil_append, List.cons_append]
  refine wpIn_wide.2 ?_
  go_wp2_with fail
  rw [← HW2.out.1, ← HW2.out.2.1, HW2.out.2.2.1]
  refine HIT.out.mono ?_
  rintro e w7 ⟨rfl, rfl⟩
  rw [← HW2.out.2.2.2.1, ← HW2.out.2.2.2.2]
  clear hmk
  go_wp2
  refine (wpIn_wide (n := 3)).1 ?_
  refine range_goes2 rfl (by decide) (gf := 85) (lb := #[.pointer (some ⟨G1, 0, none⟩)]) rfl trivial (enters_of Try.func85 (by kernel_rfl) rfl) (HSEQ.out 2 (by decide)) (fun h k => h.trans k) (fun W l o o' _ h h1 h2 => Kept.put W l o o' h h1 h2) (fun _ => rfl)
    (fun (pre : List (PlV ks)) A => AI w A ks G8 b (plL pre)) (fun s A C h hb => h.below HLT.out.2.2.1 HLT.out.2.1 HLT.out.2.2.2.1 hb) HAI.out
    (fun x W => { tmps := #[.slice ao n c, .slice co cn cc, .int .u64 (word : Nat), undef, undef, undef, .slice none 0 0, .bool false, .pointer (some ⟨G8, 0, none⟩), .int .i64 (x.1.1 : Nat), .pointer (some ⟨W.heap.size, 0, none⟩), undef, undef, undef, undef, undef, .map (some b), .slice ao n c, .func (.func 85) #[] #[.pointer (some ⟨G1, 0, none⟩)], .int .i64 (x.1.1 : Nat), x.1.2, undef, undef, undef, undef, undef, undef, undef, undef, undef, undef, undef, undef, undef, undef, undef, undef, undef, undef, undef, undef, undef, undef, undef, undef, undef, undef, undef, undef, undef, undef, undef, undef, undef, undef, undef, undef, undef, undef, undef, undef, undef, undef, undef, undef], defers := [] })
    (fun x W => W.alloc (.cells (aggA x.1.2) 43)) (fun x W => boxed_below W _) (fun x W hW => (Kept.refl b W).below (boxed_below W _))
    (fun x A V => BX V A.heap.size 43 (aggA x.1.2)) (fun x W hW => BX.new W _ _) (fun x W V l o o' hq ho hc => (World.putObj_heap_other (fun e => by
      subst e
      unfold BX at hq
      rw [hq] at ho
      cases ho
      cases hc)).trans hq) ?assign ?body ?done
  case assign =>
    rintro l ⟨⟨p, v⟩, hp, ak, nk, ck, av, nv, cv, ac, nn, cn, hv⟩ W K hK
    simp only at hv
    subst hv
    simp only [aggA, knC] at hK ⊢
    gi_wp2
    exact hK
  case body =>
    rintro l pre ⟨⟨p, v⟩, hp, ak, nk, ck, av, nv, cv, ac, nn, cn, hv⟩ A V hV hq hA hlen
    simp only at hv hp
    subst hv
    have hq' : BX V A.heap.size 43 (knC (kAt ks p) (.slice ak nk ck) (.slice av nv cv) (.slice ac nn cn)) := hq
    have q0 : V.cell? ⟨A.heap.size, 0, none⟩ = some (.int .i64 (kAt ks p).c) := hq'.cell 0 rfl
    have m0 : V.cell? ⟨G8, 0, none⟩ = some (.map (some b)) := hV.bx.cell 0 rfl
    have hpl : (plL pre).length = pre.length := List.length_map ..
    obtain ⟨C, hrun, hpm, ht⟩ := hV.pm.store (by have := HKL.out.1; have := HN.out; omega) (HWF.out p hp) p
    have hne : G8 ≠ b := fun e => HLT.out.2.2.2.2 e.symm
    have HE := Lib.hid (show KeepsFrom W3.heap.size V C ∧ Kept b V C ∧ AI w C ks G8 b (plL (pre ++ [⟨(p, .agg (knC (kAt ks p) (.slice ak nk ck) (.slice av nv cv) (.slice ac nn cn))), hp, ak, nk, ck, av, nv, cv, ac, nn, cn, rfl⟩])) from
      ⟨⟨ht.size, fun k o hk ho _ => (ht.block k (Array.getElem?_eq_some_iff.1 ho).1 (fun e => by have := HLT.out; omega)).trans ho⟩, ⟨ht.size, fun k o hk ho _ => (ht.block k (Array.getElem?_eq_some_iff.1 ho).1 hk).trans ho⟩,
        ⟨(ht.block G8 (lt_of_block hV.bx) hne).trans hV.bx, by
          have e1 : plL (pre ++ [(⟨(p, .agg (knC (kAt ks p) (.slice ak nk ck) (.slice av nv cv) (.slice ac nn cn))), hp, ak, nk, ck, av, nv, cv, ac, nn, cn, rfl⟩ : PlV ks)]) = plL pre ++ [p] := by unfold plL; rw [List.map_append]; rfl
          rw [e1, fPl_more, List.length_append, List.length_singleton]
          exact hpm, hV.bl.trans (ht.below (fun j e => by rw [show j = b from e]; exact HLT.out.1) hV.bl.size)⟩⟩)
    clear hV hq hq' hpm ht hlen
    gi_wp2
    exact HE.out
  case done =>
    rintro D ys W hD hS hTI hK
    rw [hS] at hTI
    have HTI := Lib.hid hTI
    have HDK := Lib.hid hK
    have HDG := Lib.hid (show w.heap.size ≤ D from by have := HLT.out; omega)
    have HCL := Lib.hid (clone49_any ao n c ks _ W (HKS.out.1.keep hTI.bl) HKS.out.2.1 HKS.out.2.2 HN.out)
    clear hS hTI hK hD HSEQ HAI HIT
    go_wp2_with fail
    refine HCL.out.mono ?_
    rintro e W6 ⟨v, rfl, hv, hb6⟩
    have H6 := Lib.hid (show Below W.heap.size W W6 from hb6)
    have hcl := HCS.out.len.1
    have HCLN := Lib.hid hcl
    have HAI6 := Lib.hid (show BX W6 G8 86 #[.map (some b)] ∧ (∃ N, PM W6 b N (fPl ks (bwd ks.length ks.length))) ∧ Below w.heap.size w W6 ∧ W6.heap[D]? = some (.deferred (some [])) from ⟨HTI.out.bx.below hb6, ⟨_, HTI.out.pm.keep hb6⟩, HTI.out.bl.trans (hb6.mono HTI.out.bl.size), (hb6.block D (Array.getElem?_eq_some_iff.1 HDK.out).1).trans HDK.out⟩)
    rcases hv.rowK with ⟨rfl, rfl⟩ | ⟨g, c2, rfl, hg, hr⟩
    · have hc0 : cn = 0 := by
        rw [hcl]
        rcases Nat.eq_zero_or_pos cs.length with h | h
        · exact h
        · obtain ⟨p, hp, _⟩ := HGD.out 0 h
          exact absurd hp (Nat.not_lt_zero _)
      subst hc0
      have hn0 : n = 0 := HKL.out.1
      subst hn0
      have hc0 : cs = [] := List.eq_nil_of_length_eq_zero hcl.symm
      subst hc0
      clear hv hb6 hcl
      go_wp2
      go_loopw [29] (fun s wr => s = .int .i64 0 ∧ wr = W6) (fun _ _ => 0)
      case atStart => exact ⟨rfl, rfl⟩
      case round =>
        obtain ⟨rfl, rfl⟩ := hrel
        go_wp2
        refine ⟨by simp, .inl ⟨_, _, rfl, run_takeDeferred HAI6.out.2.2.2, ?_⟩⟩
        refine ⟨.tuple #[.slice none 0 0, .bool true], by simp [results, Try.results21, go_sem, *], none, 0, rfl, KsAt.nil _ _, (fun a e => by cases e), HAI6.out.2.2.1.trans (belowK_b (w := w) (Nat.le_refl _) _ D _ _ HDG.out HAI6.out.2.2.2 rfl rfl)⟩
    · have hcnm : cn ≤ 1000 := by have := HWD.out; omega
      obtain ⟨N, hpm⟩ := HAI6.out.2.1
      have HAS := Lib.hid (show AS w0 w W6 ks cs word G8 b D g c2 N 0 from ⟨by
        have e : outL cs word ks 0 = ks := by
          unfold outL
          have : (fun y => outAt cs word y 0) = id := by funext y; rfl
          rw [this, List.map_id]
        rw [e]; exact hr, HAI6.out.1, hpm, HAI6.out.2.2.1, HAI6.out.2.2.2, by have := HTI.out.bl.size; omega⟩)
      clear hv hb6 hcl hr hg hpm
      go_wp2
      go_loopw [29] (fun s wr => ∃ i : Nat, s = .int .i64 i ∧ i ≤ cn ∧ Hid (AS w0 w wr ks cs word G8 b D g c2 N i)) (fun s _ => cn - (intOf s).toNat)
      case atStart => exact ⟨0, rfl, Nat.zero_le _, HAS⟩
      case round =>
        obtain ⟨i, rfl, hi, HS⟩ := hrel
        obtain ⟨wx, hwx⟩ : ∃ V : World, V = wr := ⟨_, rfl⟩
        rw [← hwx] at HS ⊢
        clear hwx
        by_cases hlt : i < cn
        · obtain ⟨p, hp, hpc, hcase⟩ := HGD.out i (by rw [← HCLN.out]; exact hlt)
          have hlt' : (i : Int) < cn := by omega
          obtain ⟨go, oo, ak, nk, ck, av, nv, cv, ac, nn, cn2, rfl, hP, hc⟩ := HCS.out.get hlt
          obtain ⟨rfl, rfl, rfl, rfl, rfl, rfl, _⟩ := NdO.at_ hP
          have hcw := hc wx HS.out.bl
          obtain ⟨x, hx⟩ : ∃ x, x = cAt cs i := ⟨_, rfl⟩
          rw [← hx] at hP hcw hpc hcase
          have r0 : wx.cell? ⟨go, oo + i * 14, none⟩ = some (.int .i64 x.c) := by rw [hx]; exact (hc wx HS.out.bl 0 (by decide)).trans rfl
          have r1 : wx.cell? ⟨go, oo + i * 14 + 1, none⟩ = some (.int .i64 x.fr) := by rw [hx]; exact (hc wx HS.out.bl 1 (by decide)).trans rfl
          have r2 : wx.cell? ⟨go, oo + i * 14 + 2, none⟩ = some (.int .u64 x.wd) := by rw [hx]; exact (hc wx HS.out.bl 2 (by decide)).trans rfl
          have r3 : wx.cell? ⟨go, oo + i * 14 + 3, none⟩ = some (.int .u64 x.vr) := by rw [hx]; exact (hc wx HS.out.bl 3 (by decide)).trans rfl
          have r4 : wx.cell? ⟨go, oo + i * 14 + 4, none⟩ = some (.bool x.em) := by rw [hx]; exact (hc wx HS.out.bl 4 (by decide)).trans rfl
          have r5 : wx.cell? ⟨go, oo + i * 14 + 5, none⟩ = some (.bool x.li) := by rw [hx]; exact (hc wx HS.out.bl 5 (by decide)).trans rfl
          have r6 : wx.cell? ⟨go, oo + i * 14 + 6, none⟩ = some (.int .i64 x.n.lv) := by rw [hx]; exact (hc wx HS.out.bl 6 (by decide)).trans rfl
          have r7 : wx.cell? ⟨go, oo + i * 14 + 7, none⟩ = some (.string x.n.lo) := by rw [hx]; exact (hc wx HS.out.bl 7 (by decide)).trans rfl
          have r8 : wx.cell? ⟨go, oo + i * 14 + 8, none⟩ = some (.string x.n.hi) := by rw [hx]; exact (hc wx HS.out.bl 8 (by decide)).trans rfl
          have r9 : wx.cell? ⟨go, oo + i * 14 + 9, none⟩ = some (.bool x.n.la) := by rw [hx]; exact (hc wx HS.out.bl 9 (by decide)).trans rfl
          have r10 : wx.cell? ⟨go, oo + i * 14 + 10, none⟩ = some (.int .i64 x.n.nx) := by rw [hx]; exact (hc wx HS.out.bl 10 (by decide)).trans rfl
          have r11 : wx.cell? ⟨go, oo + i * 14 + 11, none⟩ = some (.slice ak x.n.ks.length x.n.ks.length) := by rw [hx]; exact (hc wx HS.out.bl 11 (by decide)).trans rfl
          have r12 : wx.cell? ⟨go, oo + i * 14 + 12, none⟩ = some (.slice av x.n.vs.length x.n.vs.length) := by rw [hx]; exact (hc wx HS.out.bl 12 (by decide)).trans rfl
          have r13 : wx.cell? ⟨go, oo + i * 14 + 13, none⟩ = some (.slice ac x.n.cs.length x.n.cs.length) := by rw [hx]; exact (hc wx HS.out.bl 13 (by decide)).trans rfl
          have b9 := boxed_below wx (.cells #[.int .i64 x.c, .int .i64 x.fr, .int .u64 x.wd, .int .u64 x.vr, .bool x.em, .bool x.li, .int .i64 x.n.lv, .string x.n.lo, .string x.n.hi, .bool x.n.la, .int .i64 x.n.nx, .slice ak x.n.ks.length x.n.ks.length, .slice av x.n.vs.length x.n.vs.length, .slice ac x.n.cs.length x.n.cs.length] 97)
          have n9 := BX.new wx 97 #[.int .i64 x.c, .int .i64 x.fr, .int .u64 x.wd, .int .u64 x.vr, .bool x.em, .bool x.li, .int .i64 x.n.lv, .string x.n.lo, .string x.n.hi, .bool x.n.la, .int .i64 x.n.nx, .slice ak x.n.ks.length x.n.ks.length, .slice av x.n.vs.length x.n.vs.length, .slice ac x.n.cs.length x.n.cs.length]
          obtain ⟨G9, hG9⟩ : ∃ g, g = wx.heap.size := ⟨_, rfl⟩
          rw [← hG9] at n9
          obtain ⟨W9, hW9⟩ : ∃ W, W = wx.alloc (.cells #[.int .i64 x.c, .int .i64 x.fr, .int .u64 x.wd, .int .u64 x.vr, .bool x.em, .bool x.li, .int .i64 x.n.lv, .string x.n.lo, .string x.n.hi, .bool x.n.la, .int .i64 x.n.nx, .slice ak x.n.ks.length x.n.ks.length, .slice av x.n.vs.length x.n.vs.length, .slice ac x.n.cs.length x.n.cs.length] 97) := ⟨_, rfl⟩
          rw [← hW9] at b9 n9
          have h9 := HS.out.keep b9
          have hlook := h9.pm.look (HWF.out p hp) (fPl_has HD.out hp)
          rw [hpc] at hlook
          have g8c := h9.bx.cell 0 rfl
          obtain ⟨g', o', ak2, nk2, ck2, av2, nv2, cw2, ac2, nn2, cn3, e9, hPX, hkc⟩ := h9.row.at_.get (j := p) hp
          injection e9 with e9
          injection e9 with e91 e92 _
          subst e91 e92
          rw [kAt_outL hp] at hPX hkc
          obtain ⟨y, hy⟩ : ∃ y, y = outAt cs word (kAt ks p) i := ⟨_, rfl⟩
          rw [← hy] at hPX hkc
          simp only [Nat.zero_add] at hkc
          have HF : Hid (∀ V, Calls Try.prog 50 #[.agg #[.int .i64 y.c, .int .u64 y.wd, .int .u64 y.vr, .int .i64 y.n.lv, .string y.n.lo, .string y.n.hi, .bool y.n.la, .int .i64 y.n.nx, .slice ak2 nk2 ck2, .slice av2 nv2 cw2, .slice ac2 nn2 cn3], .agg #[.int .i64 x.c, .int .i64 x.fr, .int .u64 x.wd, .int .u64 x.vr, .bool x.em, .bool x.li, .int .i64 x.n.lv, .string x.n.lo, .string x.n.hi, .bool x.n.la, .int .i64 x.n.nx, .slice ak x.n.ks.length x.n.ks.length, .slice av x.n.vs.length x.n.vs.length, .slice ac x.n.cs.length x.n.cs.length], .int .i64 (i : Nat), .int .u64 (word : Nat)] V fun e w' => e = .returned (.bool true) ∧ Below V.heap.size V w') := Lib.hid (fun V => by
            have hwd := HWD.out
            rcases hcase with ⟨h1, h2, h3, h4, h5⟩ | ⟨j, h1, h2, h3, h4⟩
            · have hyy : y = kAt ks p := by rw [hy]; unfold outAt; rw [hpc, h1, if_pos rfl]
              have := fits1_any y.c x.wd x.vr y.n (.slice ak2 nk2 ck2) (.slice av2 nv2 cw2) (.slice ac2 nn2 cn3) x.c x.em x.li x.n (.slice ak x.n.ks.length x.n.ks.length) (.slice av x.n.vs.length x.n.vs.length) (.slice ac x.n.cs.length x.n.cs.length) i word V h5 (by omega) hwd.1 (by omega)
              unfold knC chA at this
              simp only at this
              rw [hyy] at this ⊢
              rw [h2, h3, h4]
              exact this
            · have hjc := lastC_ge cs x.c i
              have hyy : y = behF (cAt cs j) ((word + j : Nat) : Int) := by rw [hy]; unfold outAt; rw [hpc, h1, if_neg (by omega), Int.toNat_natCast]
              have hyw : y.wd = ((word + j : Nat) : Int) := by rw [hyy]; unfold behF; simp only; rw [h3]; rfl
              have hyv : y.vr = x.vr := by rw [hyy]; unfold behF; simp only; exact h4.symm
              have := fits2_any y.c x.vr j y.n (.slice ak2 nk2 ck2) (.slice av2 nv2 cw2) (.slice ac2 nn2 cn3) x.c x.wd x.em x.li x.n (.slice ak x.n.ks.length x.n.ks.length) (.slice av x.n.vs.length x.n.vs.length) (.slice ac x.n.cs.length x.n.cs.length) i word V (by omega) (by omega) hwd.1 (by omega)
              unfold knC chA at this
              simp only at this
              rw [hyw, hyv, h2]
              exact this)
          have H9 := Lib.hid h9
          have N9 := Lib.hid n9
          have HKC := Lib.hid hkc
          have HNN := Lib.hid hP.n
          have HNX := Lib.hid (NdO.at_ hP).2.2.2.2.2.2
          have HWX := Lib.hid h9.bl
          have HY := Lib.hid (show y = _ ∧ p < ks.length ∧ (kAt ks p).c = x.c ∧ x = cAt cs i from ⟨hy, hp, hpc, hx⟩)
          have HPP := Lib.hid hP
          have HW9 := Lib.hid (show G9 = wx.heap.size ∧ _ from ⟨hG9, hW9⟩)
          have hp' : (p : Int) < ks.length := by omega
          have x0 := n9.cell 0 rfl
          have hnL := HKL.out.1
          clear hcase hcw hc hP hx b9 n9 hG9 hW9 h9 hPX hkc hy
          go_upto_region 10 with fail
          rw [← HW9.out.1, ← HW9.out.2]
          clear r0 r1 r2 r3 r4 r5 r6 r7 r8 r9 r10 r11 r12 r13
          go_upto_region 11 with fail
          have u0 : ∀ q : Later W9, q.w.cell? ⟨G9, 0, none⟩ = some (.int .i64 x.c) := fun q => (N9.out.below q.h).cell 0 rfl
          have u1 : ∀ q : Later W9, q.w.cell? ⟨G9, 1, none⟩ = some (.int .i64 x.fr) := fun q => (N9.out.below q.h).cell 1 rfl
          have u2 : ∀ q : Later W9, q.w.cell? ⟨G9, 2, none⟩ = some (.int .u64 x.wd) := fun q => (N9.out.below q.h).cell 2 rfl
          have u3 : ∀ q : Later W9, q.w.cell? ⟨G9, 3, none⟩ = some (.int .u64 x.vr) := fun q => (N9.out.below q.h).cell 3 rfl
          have u4 : ∀ q : Later W9, q.w.cell? ⟨G9, 4, none⟩ = some (.bool x.em) := fun q => (N9.out.below q.h).cell 4 rfl
          have u5 : ∀ q : Later W9, q.w.cell? ⟨G9, 5, none⟩ = some (.bool x.li) := fun q => (N9.out.below q.h).cell 5 rfl
          have u6 : ∀ q : Later W9, q.w.cell? ⟨G9, 6, none⟩ = some (.int .i64 x.n.lv) := fun q => (N9.out.below q.h).cell 6 rfl
          have u7 : ∀ q : Later W9, q.w.cell? ⟨G9, 7, none⟩ = some (.string x.n.lo) := fun q => (N9.out.below q.h).cell 7 rfl
          have u8 : ∀ q : Later W9, q.w.cell? ⟨G9, 8, none⟩ = some (.string x.n.hi) := fun q => (N9.out.below q.h).cell 8 rfl
          have u9 : ∀ q : Later W9, q.w.cell? ⟨G9, 9, none⟩ = some (.bool x.n.la) := fun q => (N9.out.below q.h).cell 9 rfl
          have u10 : ∀ q : Later W9, q.w.cell? ⟨G9, 10, none⟩ = some (.int .i64 x.n.nx) := fun q => (N9.out.below q.h).cell 10 rfl
          have u11 : ∀ q : Later W9, q.w.cell? ⟨G9, 11, none⟩ = some (.slice ak x.n.ks.length x.n.ks.length) := fun q => (N9.out.below q.h).cell 11 rfl
          have u12 : ∀ q : Later W9, q.w.cell? ⟨G9, 12, none⟩ = some (.slice av x.n.vs.length x.n.vs.length) := fun q => (N9.out.below q.h).cell 12 rfl
          have u13 : ∀ q : Later W9, q.w.cell? ⟨G9, 13, none⟩ = some (.slice ac x.n.cs.length x.n.cs.length) := fun q => (N9.out.below q.h).cell 13 rfl
          have z0 : ∀ q : Later W9, q.w.cell? ⟨g, p * 11, none⟩ = some (.int .i64 y.c) := fun q => (HKC.out q.w q.h).1
          have z1 : ∀ q : Later W9, q.w.cell? ⟨g, p * 11 + 1, none⟩ = some (.int .u64 y.wd) := fun q => (HKC.out q.w q.h).2.1
          have z2 : ∀ q : Later W9, q.w.cell? ⟨g, p * 11 + 2, none⟩ = some (.int .u64 y.vr) := fun q => (HKC.out q.w q.h).2.2.1
          have z3 : ∀ q : Later W9, q.w.cell? ⟨g, p * 11 + 3, none⟩ = some (.int .i64 y.n.lv) := fun q => (HKC.out q.w q.h).2.2.2.1
          have z4 : ∀ q : Later W9, q.w.cell? ⟨g, p * 11 + 4, none⟩ = some (.string y.n.lo) := fun q => (HKC.out q.w q.h).2.2.2.2.1
          have z5 : ∀ q : Later W9, q.w.cell? ⟨g, p * 11 + 5, none⟩ = some (.string y.n.hi) := fun q => (HKC.out q.w q.h).2.2.2.2.2.1
          have z6 : ∀ q : Later W9, q.w.cell? ⟨g, p * 11 + 6, none⟩ = some (.bool y.n.la) := fun q => (HKC.out q.w q.h).2.2.2.2.2.2.1
          have z7 : ∀ q : Later W9, q.w.cell? ⟨g, p * 11 + 7, none⟩ = some (.int .i64 y.n.nx) := fun q => (HKC.out q.w q.h).2.2.2.2.2.2.2.1
          have z8 : ∀ q : Later W9, q.w.cell? ⟨g, p * 11 + 8, none⟩ = some (.slice ak2 nk2 ck2) := fun q => (HKC.out q.w q.h).2.2.2.2.2.2.2.2.1
          have z9 : ∀ q : Later W9, q.w.cell? ⟨g, p * 11 + 9, none⟩ = some (.slice av2 nv2 cw2) := fun q => (HKC.out q.w q.h).2.2.2.2.2.2.2.2.2.1
          have z10 : ∀ q : Later W9, q.w.cell? ⟨g, p * 11 + 10, none⟩ = some (.slice ac2 nn2 cn3) := fun q => (HKC.out q.w q.h).2.2.2.2.2.2.2.2.2.2
          refine wp_region_later (by kernel_rfl) (by kernel_rfl) ?_
          repeat (quiet_step (first | (go_at_call 50; (with_reducible exact later_of (HF.out _)))))
          refine wpQuiet_nil ?_
          intro wy hwy'
          have hwy : Below W9.heap.size W9 wy := by
            obtain ⟨⟨wz, hwz⟩, hw2⟩ := hwy'
            rw [hw2]
            exact hwz
          have HWY := Lib.hid hwy
          have ny := N9.out.below hwy
          have d0 := ny.cell 0 rfl
          have d1 := ny.cell 1 rfl
          have d2 := ny.cell 2 rfl
          have d3 := ny.cell 3 rfl
          have d4 := ny.cell 4 rfl
          have d5 := ny.cell 5 rfl
          have d6 := ny.cell 6 rfl
          have d7 := ny.cell 7 rfl
          have d8 := ny.cell 8 rfl
          have d9 := ny.cell 9 rfl
          have d10 := ny.cell 10 rfl
          have d11 := ny.cell 11 rfl
          have d12 := ny.cell 12 rfl
          have d13 := ny.cell 13 rfl
          have HBH := Lib.hid (behind_any x ak x.n.ks.length av x.n.vs.length ac x.n.cs.length ((word + i : Nat) : Int) wy (HNX.out.keep (HWX.out.trans (hwy.mono HWX.out.size))) HNN.out)
          unfold chA at HBH
          have k1 : IntKind.u64.wrap (i : Int) = (i : Int) := by rw [IntKind.wrap_u64]; omega
          have k2 : IntKind.u64.wrap ((word : Int) + (i : Int)) = ((word + i : Nat) : Int) := by have := HWD.out; rw [IntKind.wrap_u64]; omega
          clear u0 u1 u2 u3 u4 u5 u6 u7 u8 u9 u10 u11 u12 u13 z0 z1 z2 z3 z4 z5 z6 z7 z8 z9 z10 hwy' hwy ny hlook g8c x0
          go_wp2_with fail
          refine HBH.out.mono ?_
          rintro e wb ⟨ka, k1', k2', va, v1', v2', ca, c1', c2', rfl, hnb, hbb⟩
          have hab := H9.out.keep (HWY.out.trans (hbb.mono HWY.out.size))
          obtain ⟨z, hz⟩ : ∃ z, z = behF x ((word + i : Nat) : Int) := ⟨_, rfl⟩
          rw [← hz] at hnb ⊢
          simp only [knC]
          obtain ⟨g', o', ak3, nk3, ck3, av3, nv3, cw3, ac3, nn3, cn4, e9, _, hkb⟩ := hab.row.at_.get (j := p) HY.out.2.1
          injection e9 with e9
          injection e9 with e91 e92 _
          subst e91 e92
          obtain ⟨t0, t1, t2, t3, t4, t5, t6, t7, t8, t9, t10⟩ := hkb wb (Below.refl _ _)
          rw [Nat.zero_add] at t0 t1 t2 t3 t4 t5 t6 t7 t8 t9 t10
          obtain ⟨cur, hcur, _⟩ := hab.row.blk
          have fz : ∀ q, wb.frozen? ⟨g, q, none⟩ = false := fun q => by simp [World.frozen?, hcur]
          have f0 := fz (p * 11)
          have f1 := fz (p * 11 + 1)
          have f2 := fz (p * 11 + 2)
          have f3 := fz (p * 11 + 3)
          have f4 := fz (p * 11 + 4)
          have f5 := fz (p * 11 + 5)
          have f6 := fz (p * 11 + 6)
          have f7 := fz (p * 11 + 7)
          have f8 := fz (p * 11 + 8)
          have f9 := fz (p * 11 + 9)
          have f10 := fz (p * 11 + 10)
          have HSN := Lib.hid (hab.step HY.out.2.1 (by rw [← HY.out.2.2.2]; exact HY.out.2.2.1) HD.out (hnb.base (by have := H0.out.size; have := HWX.out.size; have := HWY.out.size; omega)) (by rw [hz, ← HY.out.2.2.2]))
          clear hnb hbb hab hkb hcur fz hz d0 d1 d2 d3 d4 d5 d6 d7 d8 d9 d10 d11 d12 d13
          go_wp2
          go_roundw
          case rel =>
            (repeat apply Exists.intro)
            refine ⟨?_, rfl, rfl, rfl, rfl, rfl, rfl, rfl⟩
            exact ⟨i + 1, by go_num, by omega, HSN⟩
          case measure => simp [intOf]; omega
        · obtain rfl : i = cn := by omega
          have HE := Lib.hid (show AS w0 w wx ks cs word G8 b D g c2 N cs.length from by rw [← HCLN.out]; exact HS.out)
          rw [← HKL.out.1]
          go_wp2
          refine ⟨by simp, .inl ⟨_, _, rfl, run_takeDeferred HE.out.df, ?_⟩⟩
          refine ⟨.tuple #[.slice (some ⟨g, 0, none⟩) n c2, .bool true], by simp [results, Try.results21, go_sem, *], some ⟨g, 0, none⟩, c2, rfl, ?_, (fun a e => by injection e with e; exact ⟨g, e.symm, HE.out.ge⟩), HE.out.bl.trans (belowK_b (w := w) (Nat.le_refl _) wx D _ _ HDG.out HE.out.df rfl rfl)⟩
          have h9 := HE.out.put (.deferred none)
          rw [← HKL.out.1] at h9
          exact h9
end Go.Proofs.Ytdbklklmpnlinaa
