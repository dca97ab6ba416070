/- whole.flawsOfTree$1 .. $6: the rules of a tree. Condition: sound nodes. What is reached in a tree; the state of the iterator that goes through it. No condition. The iterator of whole.tree.reached: what is reached, each once. Condition: the tree is made; its kids' numbers are numbers. -/
import Derived.Test.YtgaacoeggikbpaaPq5
import Derived.Test.YtgaacoeggikbpaaPq1
import Derived.RangeFuncNested
import Derived.RangeFuncBound
import Derived.RangeFuncCalls
import Derived.RangeFuncLeaves
import Derived.Shelf.Abstract
import Derived.Shelf.RegionOpen
import Derived.WalkKit
import Derived.OwnWalkIn
import Derived.TacticsInMore
import Derived.LoopNIn
import Derived.LoopIn
import Derived.Maps.OwnIn
import Derived.Maps.AppendAt
namespace Go.Proofs.Ytgaacoeggikbpaa
open Go.RowKit Go.Maps

/-- Is it so of one below n? -/
def anyN (n : Nat) (P : Nat → Bool) : Bool := (List.range n).any P
theorem anyN_no {n : Nat} {P : Nat → Bool} (h : ∀ j, j < n → P j = false) : anyN n P = false := by
  unfold anyN
  rw [List.any_eq_false]
  intro x hx
  rw [h x (List.mem_range.1 hx)]
  decide
theorem anyN_yes {n i : Nat} {P : Nat → Bool} (hi : i < n) (h : P i = true) : anyN n P = true := by
  unfold anyN
  rw [List.any_eq_true]
  exact ⟨i, List.mem_range.2 hi, h⟩
/-- What a sound node's sizes are. -/
structure KidK (kn : Kn) : Prop where
  lv : 0 ≤ kn.n.lv ∧ kn.n.lv < 14
  kk : kn.n.cs.length ≤ kn.n.ks.length
  kc : kn.n.ks.length ≤ 80
/-- The tree's box and its maps. -/
structure TrAt (w0 w : World) (cb bn bp n N : Nat) (ks : List Kn) : Prop where
  b : BX w cb 55 #[.map (some bn), .map (some bp)]
  nm : NM w0 w bn n ks
  im : IM w bp N (fun x => par ks x)
theorem TrAt.keep {w0 w w' : World} {cb bn bp n N : Nat} {ks : List Kn} (h : TrAt w0 w cb bn bp n N ks) (hb : Below w.heap.size w w') : TrAt w0 w' cb bn bp n N ks := ⟨h.b.below hb, h.nm.keep hb, h.im.keep hb⟩
def strK (ks : List Kn) (kn : Kn) (i : Nat) : Bool := strayP ks kn.n.lv (ni kn.n.cs i)
def fitK (ks : List Kn) (kn : Kn) (i : Nat) : Bool := fitP ks (nth kn.n.ks i) (if i + 1 < kn.n.ks.length then nth kn.n.ks (i + 1) else kn.n.hi) (if i + 1 < kn.n.ks.length then false else kn.n.la) (ni kn.n.cs i)
def misK (ks : List Kn) (kn : Kn) (i : Nat) : Bool := !strK ks kn i && !fitK ks kn i
set_option maxHeartbeats 4000000 in
set_option maxRecDepth 100000 in
theorem some2_any (ac : Option Addr) (nc cc c1 c2 : Nat) (P : Nat → Bool) (w : World) (hn : nc ≤ 80) (H : ∀ i W, i < nc → Below w.heap.size w W → Calls Try.prog 49 #[.int .i64 (i : Nat), .pointer (some ⟨c1, 0, none⟩), .pointer (some ⟨c2, 0, none⟩)] W fun e w' => e = .returned (.bool (P i)) ∧ Below W.heap.size W w') :
    Calls Try.prog 48 #[.slice ac nc cc, .func (.func 49) #[] #[.pointer (some ⟨c1, 0, none⟩), .pointer (some ⟨c2, 0, none⟩)]] w fun e w' => e = .returned (.bool (anyN nc P)) ∧ Below w.heap.size w w' := by
  have HH := Lib.hid H
  clear H
  go_enter Try.func48, Try.ntmps48
  go_wp2
  go_loopw [8] (fun s wr => ∃ i : Nat, s = .int .i64 i ∧ i ≤ nc ∧ Hid (Below w.heap.size w wr ∧ ∀ j, j < i → P j = false)) (fun s _ => nc - (intOf s).toNat)
  case atStart => exact ⟨0, rfl, Nat.zero_le _, Lib.hid ⟨Below.refl _ _, fun j h => absurd h (Nat.not_lt_zero _)⟩⟩
  case round =>
    obtain ⟨i, rfl, hi, HS⟩ := hrel
    obtain ⟨wx, hwx⟩ : ∃ W : World, W = wr := ⟨_, rfl⟩
    rw [← hwx] at HS ⊢
    clear hwx
    by_cases hlt : i < nc
    · have hlt' : (i : Int) < nc := by omega
      have HC := Lib.hid (HH.out i wx hlt HS.out.1)
      obtain ⟨pb, hpb⟩ : ∃ pb, pb = P i := ⟨_, rfl⟩
      rw [← hpb] at HC
      have HPB := Lib.hid hpb
      clear hpb
      go_wp2_with fail
      refine HC.out.mono ?_
      rintro e w4 ⟨rfl, hb4⟩
      have HB4 := Lib.hid (HS.out.1.trans (hb4.mono HS.out.1.size))
      clear hb4
      cases pb with
      | true =>
        go_wp2
        go_ret
        exact ⟨by rw [anyN_yes hlt HPB.out.symm]; rfl, HB4.out⟩
      | false =>
        have HN := Lib.hid (show ∀ j, j < i + 1 → P j = false from fun j hj => by
          by_cases e : j = i
          · rw [e]; exact HPB.out.symm
          · exact HS.out.2 j (by omega))
        go_wp2
        go_roundw
        case rel => exact ⟨i + 1, by go_num, by omega, Lib.hid ⟨HB4.out, HN.out⟩⟩
        case measure => simp [intOf]; omega
    · obtain rfl : i = nc := by omega
      go_wp2
      go_ret
      exact ⟨by rw [anyN_no HS.out.2]; rfl, HS.out.1⟩
set_option maxHeartbeats 4000000 in
set_option maxRecDepth 100000 in
theorem some3_any (ac : Option Addr) (nc cc c1 c2 : Nat) (P : Nat → Bool) (w : World) (hn : nc ≤ 80) (H : ∀ i W, i < nc → Below w.heap.size w W → Calls Try.prog 52 #[.int .i64 (i : Nat), .pointer (some ⟨c1, 0, none⟩), .pointer (some ⟨c2, 0, none⟩)] W fun e w' => e = .returned (.bool (P i)) ∧ Below W.heap.size W w') :
    Calls Try.prog 48 #[.slice ac nc cc, .func (.func 52) #[] #[.pointer (some ⟨c1, 0, none⟩), .pointer (some ⟨c2, 0, none⟩)]] w fun e w' => e = .returned (.bool (anyN nc P)) ∧ Below w.heap.size w w' := by
  have HH := Lib.hid H
  clear H
  go_enter Try.func48, Try.ntmps48
  go_wp2
  go_loopw [8] (fun s wr => ∃ i : Nat, s = .int .i64 i ∧ i ≤ nc ∧ Hid (Below w.heap.size w wr ∧ ∀ j, j < i → P j = false)) (fun s _ => nc - (intOf s).toNat)
  case atStart => exact ⟨0, rfl, Nat.zero_le _, Lib.hid ⟨Below.refl _ _, fun j h => absurd h (Nat.not_lt_zero _)⟩⟩
  case round =>
    obtain ⟨i, rfl, hi, HS⟩ := hrel
    obtain ⟨wx, hwx⟩ : ∃ W : World, W = wr := ⟨_, rfl⟩
    rw [← hwx] at HS ⊢
    clear hwx
    by_cases hlt : i < nc
    · have hlt' : (i : Int) < nc := by omega
      have HC := Lib.hid (HH.out i wx hlt HS.out.1)
      obtain ⟨pb, hpb⟩ : ∃ pb, pb = P i := ⟨_, rfl⟩
      rw [← hpb] at HC
      have HPB := Lib.hid hpb
      clear hpb
      go_wp2_with fail
      refine HC.out.mono ?_
      rintro e w4 ⟨rfl, hb4⟩
      have HB4 := Lib.hid (HS.out.1.trans (hb4.mono HS.out.1.size))
      clear hb4
      cases pb with
      | true =>
        go_wp2
        go_ret
        exact ⟨by rw [anyN_yes hlt HPB.out.symm]; rfl, HB4.out⟩
      | false =>
        have HN := Lib.hid (show ∀ j, j < i + 1 → P j = false from fun j hj => by
          by_cases e : j = i
          · rw [e]; exact HPB.out.symm
          · exact HS.out.2 j (by omega))
        go_wp2
        go_roundw
        case rel => exact ⟨i + 1, by go_num, by omega, Lib.hid ⟨HB4.out, HN.out⟩⟩
        case measure => simp [intOf]; omega
    · obtain rfl : i = nc := by omega
      go_wp2
      go_ret
      exact ⟨by rw [anyN_no HS.out.2]; rfl, HS.out.1⟩
set_option maxHeartbeats 4000000 in
set_option maxRecDepth 100000 in
theorem fot21_any (w0 : World) (cb kb bn bp n N : Nat) (ks : List Kn) (kn : Kn) (ak av ac : Option Addr) (ck cv cc : Nat) (i : Nat) (w : World) (hT : TrAt w0 w cb bn bp n N ks) (hk : BX w kb 40 #[.int .i64 kn.c, .int .u64 kn.wd, .int .u64 kn.vr, .int .i64 kn.n.lv, .string kn.n.lo, .string kn.n.hi, .bool kn.n.la, .int .i64 kn.n.nx, .slice ak kn.n.ks.length ck, .slice av kn.n.vs.length cv, .slice ac kn.n.cs.length cc]) (hnd : NdAt w ak av ac kn.n.ks.length ck kn.n.vs.length cv kn.n.cs.length cc kn.n.ks kn.n.vs kn.n.cs) (hi : i < kn.n.cs.length) (hW : WfK kn) (hK : KidK kn) :
    Calls Try.prog 49 #[.int .i64 (i : Nat), .pointer (some ⟨cb, 0, none⟩), .pointer (some ⟨kb, 0, none⟩)] w fun e w' => e = .returned (.bool (strK ks kn i)) ∧ Below w.heap.size w w' := by
  have hwf : (Lit.int .i64 (ni kn.n.cs i)).wf = true := hW.cs _ (by rw [ni_eq hi]; exact List.getElem_mem _)
  have HC1 := Lib.hid (strays_any w0 bn bp n N ks kn.n.lv kn.n.nx kn.n.lo kn.n.hi kn.n.la ak av ac kn.n.ks.length ck kn.n.vs.length cv kn.n.cs.length cc kn.n.cs i w hT.nm hT.im hnd.c hi hwf hK.lv)
  have t0 := hT.b.cell 0 rfl
  have t1 := hT.b.cell 1 rfl
  have k3 := hk.cell 3 rfl
  have k4 := hk.cell 4 rfl
  have k5 := hk.cell 5 rfl
  have k6 := hk.cell 6 rfl
  have k7 := hk.cell 7 rfl
  have k8 := hk.cell 8 rfl
  have k9 := hk.cell 9 rfl
  have k10 := hk.cell 10 rfl
  clear hT hk hnd hwf hW hK
  go_enter Try.func49, Try.ntmps49
  go_wp2_with fail
  refine HC1.out.mono ?_
  rintro e w4 ⟨rfl, hb4⟩
  have HB4 := Lib.hid hb4
  clear hb4 t0 t1 k3 k4 k5 k6 k7 k8 k9 k10
  go_wp2
  go_ret
  exact ⟨rfl, HB4.out⟩
set_option maxHeartbeats 4000000 in
set_option maxRecDepth 100000 in
theorem fot31_any (w0 : World) (cb kb bn bp n N : Nat) (ks : List Kn) (kn : Kn) (ak av ac : Option Addr) (ck cv cc : Nat) (i : Nat) (w : World) (hT : TrAt w0 w cb bn bp n N ks) (hk : BX w kb 40 #[.int .i64 kn.c, .int .u64 kn.wd, .int .u64 kn.vr, .int .i64 kn.n.lv, .string kn.n.lo, .string kn.n.hi, .bool kn.n.la, .int .i64 kn.n.nx, .slice ak kn.n.ks.length ck, .slice av kn.n.vs.length cv, .slice ac kn.n.cs.length cc]) (hnd : NdAt w ak av ac kn.n.ks.length ck kn.n.vs.length cv kn.n.cs.length cc kn.n.ks kn.n.vs kn.n.cs) (hi : i < kn.n.cs.length) (hW : WfK kn) (hK : KidK kn) :
    Calls Try.prog 52 #[.int .i64 (i : Nat), .pointer (some ⟨cb, 0, none⟩), .pointer (some ⟨kb, 0, none⟩)] w fun e w' => e = .returned (.bool (misK ks kn i)) ∧ Below w.heap.size w w' := by
  have hwf : (Lit.int .i64 (ni kn.n.cs i)).wf = true := hW.cs _ (by rw [ni_eq hi]; exact List.getElem_mem _)
  have HC1 := Lib.hid (strays_any w0 bn bp n N ks kn.n.lv kn.n.nx kn.n.lo kn.n.hi kn.n.la ak av ac kn.n.ks.length ck kn.n.vs.length cv kn.n.cs.length cc kn.n.cs i w hT.nm hT.im hnd.c hi hwf hK.lv)
  have HC2 : Hid (∀ W, Below w.heap.size w W → Calls Try.prog 53 #[.agg #[.map (some bn), .map (some bp)], .agg #[.int .i64 kn.n.lv, .string kn.n.lo, .string kn.n.hi, .bool kn.n.la, .int .i64 kn.n.nx, .slice ak kn.n.ks.length ck, .slice av kn.n.vs.length cv, .slice ac kn.n.cs.length cc], .int .i64 (i : Nat)] W fun e w' => e = .returned (.bool (fitK ks kn i)) ∧ Below W.heap.size W w') := Lib.hid (fun W hb => fits_any w0 bn bp n ks kn.n.lv kn.n.nx kn.n.lo kn.n.hi kn.n.la ak av ac kn.n.ks.length ck kn.n.vs.length cv kn.n.cs.length cc kn.n.ks kn.n.cs i W (hT.nm.keep hb) (hnd.keep hb).k (hnd.keep hb).c (Nat.lt_of_lt_of_le hi hK.kk) hi hwf)
  have HT := Lib.hid hT
  have HK := Lib.hid hk
  have t0 := hT.b.cell 0 rfl
  have t1 := hT.b.cell 1 rfl
  have k3 := hk.cell 3 rfl
  have k4 := hk.cell 4 rfl
  have k5 := hk.cell 5 rfl
  have k6 := hk.cell 6 rfl
  have k7 := hk.cell 7 rfl
  have k8 := hk.cell 8 rfl
  have k9 := hk.cell 9 rfl
  have k10 := hk.cell 10 rfl
  obtain ⟨sb, hsb⟩ : ∃ sb, sb = strK ks kn i := ⟨_, rfl⟩
  obtain ⟨fb, hfb⟩ : ∃ fb, fb = fitK ks kn i := ⟨_, rfl⟩
  unfold misK
  rw [show strayP ks kn.n.lv (ni kn.n.cs i) = strK ks kn i from rfl, ← hsb] at HC1
  rw [← hfb] at HC2
  rw [← hsb, ← hfb]
  clear hT hk hnd hwf hW hK hsb hfb
  cases sb with
  | true =>
    go_enter Try.func52, Try.ntmps52
    go_wp2_with fail
    refine HC1.out.mono ?_
    rintro e w4 ⟨rfl, hb4⟩
    have HB4 := Lib.hid hb4
    clear hb4 t0 t1 k3 k4 k5 k6 k7 k8 k9 k10
    go_wp2
    go_ret
    exact ⟨rfl, HB4.out⟩
  | false =>
    go_enter Try.func52, Try.ntmps52
    go_wp2_with fail
    refine HC1.out.mono ?_
    rintro e w4 ⟨rfl, hb4⟩
    have HB4 := Lib.hid hb4
    clear hb4 t0 t1 k3 k4 k5 k6 k7 k8 k9 k10
    have t0 := (HT.out.b.below HB4.out).cell 0 rfl
    have t1 := (HT.out.b.below HB4.out).cell 1 rfl
    have k3 := (HK.out.below HB4.out).cell 3 rfl
    have k4 := (HK.out.below HB4.out).cell 4 rfl
    have k5 := (HK.out.below HB4.out).cell 5 rfl
    have k6 := (HK.out.below HB4.out).cell 6 rfl
    have k7 := (HK.out.below HB4.out).cell 7 rfl
    have k8 := (HK.out.below HB4.out).cell 8 rfl
    have k9 := (HK.out.below HB4.out).cell 9 rfl
    have k10 := (HK.out.below HB4.out).cell 10 rfl
    go_wp2_with fail
    refine (HC2.out w4 HB4.out).mono ?_
    rintro e w5 ⟨rfl, hb5⟩
    have HB5 := Lib.hid (HB4.out.trans (hb5.mono HB4.out.size))
    clear hb5 t0 t1 k3 k4 k5 k6 k7 k8 k9 k10
    cases fb with
    | true =>
      go_wp2
      go_ret
      exact ⟨rfl, HB5.out⟩
    | false =>
      go_wp2
      go_ret
      exact ⟨rfl, HB5.out⟩
set_option maxHeartbeats 4000000 in
set_option maxRecDepth 100000 in
theorem fot2_any (w0 : World) (cb bn bp n N : Nat) (ks : List Kn) (kn : Kn) (v : Value) (w : World) (hT : TrAt w0 w cb bn bp n N ks) (hv : KnV w v kn) (hW : WfK kn) (hK : KidK kn) :
    Calls Try.prog 47 #[v, .pointer (some ⟨cb, 0, none⟩)] w fun e w' => e = .returned (.bool (anyN kn.n.cs.length (strK ks kn))) ∧ Below w.heap.size w w' := by
  obtain ⟨ak, av, ac, ck, cv, cc, rfl, hnd⟩ := kn_open hv
  have hx := boxed_below w (.cells (KnA kn ak av ac ck cv cc) 40)
  have n1 := BX.new w 40 (KnA kn ak av ac ck cv cc)
  obtain ⟨G, hG⟩ : ∃ g, g = w.heap.size := ⟨_, rfl⟩
  rw [← hG] at n1
  obtain ⟨W1, hW1⟩ : ∃ W, W = w.alloc (.cells (KnA kn ak av ac ck cv cc) 40) := ⟨_, rfl⟩
  rw [← hW1] at hx n1
  unfold KnA at hW1 n1
  have HW := Lib.hid (show G = w.heap.size ∧ _ from ⟨hG, hW1⟩)
  have HX := Lib.hid hx
  have k0 := n1.cell 0 rfl
  have k3 := n1.cell 3 rfl
  have k4 := n1.cell 4 rfl
  have k5 := n1.cell 5 rfl
  have k6 := n1.cell 6 rfl
  have k7 := n1.cell 7 rfl
  have k8 := n1.cell 8 rfl
  have k9 := n1.cell 9 rfl
  have k10 := n1.cell 10 rfl
  have HC := Lib.hid (some2_any ac kn.n.cs.length cc cb G (strK ks kn) W1 (Nat.le_trans hK.kk hK.kc) (fun i W hi hb => fot21_any w0 cb G bn bp n N ks kn ak av ac ck cv cc i W ((hT.keep hx).keep hb) (n1.below hb) ((hnd.keep hx).keep hb) hi hW hK))
  clear hx n1 hG hW1 hT hnd hW hK hv
  go_enter Try.func47, Try.ntmps47
  go_upto_region 1 with fail
  rw [← HW.out.1, ← HW.out.2]
  clear HW
  go_wp2_with fail
  refine HC.out.mono ?_
  rintro e w4 ⟨rfl, hb4⟩
  have HB4 := Lib.hid (HX.out.trans (hb4.mono HX.out.size))
  clear hb4 k0 k3 k4 k5 k6 k7 k8 k9 k10
  go_wp2
  go_ret
  exact ⟨rfl, HB4.out⟩
set_option maxHeartbeats 4000000 in
set_option maxRecDepth 100000 in
theorem fot3_any (w0 : World) (cb bn bp n N : Nat) (ks : List Kn) (kn : Kn) (v : Value) (w : World) (hT : TrAt w0 w cb bn bp n N ks) (hv : KnV w v kn) (hW : WfK kn) (hK : KidK kn) :
    Calls Try.prog 51 #[v, .pointer (some ⟨cb, 0, none⟩)] w fun e w' => e = .returned (.bool (anyN kn.n.cs.length (misK ks kn))) ∧ Below w.heap.size w w' := by
  obtain ⟨ak, av, ac, ck, cv, cc, rfl, hnd⟩ := kn_open hv
  have hx := boxed_below w (.cells (KnA kn ak av ac ck cv cc) 40)
  have n1 := BX.new w 40 (KnA kn ak av ac ck cv cc)
  obtain ⟨G, hG⟩ : ∃ g, g = w.heap.size := ⟨_, rfl⟩
  rw [← hG] at n1
  obtain ⟨W1, hW1⟩ : ∃ W, W = w.alloc (.cells (KnA kn ak av ac ck cv cc) 40) := ⟨_, rfl⟩
  rw [← hW1] at hx n1
  unfold KnA at hW1 n1
  have HW := Lib.hid (show G = w.heap.size ∧ _ from ⟨hG, hW1⟩)
  have HX := Lib.hid hx
  have k0 := n1.cell 0 rfl
  have k3 := n1.cell 3 rfl
  have k4 := n1.cell 4 rfl
  have k5 := n1.cell 5 rfl
  have k6 := n1.cell 6 rfl
  have k7 := n1.cell 7 rfl
  have k8 := n1.cell 8 rfl
  have k9 := n1.cell 9 rfl
  have k10 := n1.cell 10 rfl
  have HC := Lib.hid (some3_any ac kn.n.cs.length cc cb G (misK ks kn) W1 (Nat.le_trans hK.kk hK.kc) (fun i W hi hb => fot31_any w0 cb G bn bp n N ks kn ak av ac ck cv cc i W ((hT.keep hx).keep hb) (n1.below hb) ((hnd.keep hx).keep hb) hi hW hK))
  clear hx n1 hG hW1 hT hnd hW hK hv
  go_enter Try.func51, Try.ntmps51
  go_upto_region 1 with fail
  rw [← HW.out.1, ← HW.out.2]
  clear HW
  go_wp2_with fail
  refine HC.out.mono ?_
  rintro e w4 ⟨rfl, hb4⟩
  have HB4 := Lib.hid (HX.out.trans (hb4.mono HX.out.size))
  clear hb4 k0 k3 k4 k5 k6 k7 k8 k9 k10
  go_wp2
  go_ret
  exact ⟨rfl, HB4.out⟩
set_option maxHeartbeats 4000000 in
set_option maxRecDepth 100000 in
theorem fot1_any (kn : Kn) (v : Value) (w : World) (hv : KnV w v kn) :
    Calls Try.prog 45 #[v] w fun e w' => e = .returned (.bool (decide (kn.c = 0) && !rootP kn.n.lv kn.n.lo kn.n.la kn.n.ks.length)) ∧ Below w.heap.size w w' := by
  obtain ⟨ak, av, ac, ck, cv, cc, rfl, hnd⟩ := kn_open hv
  have hx := boxed_below w (.cells (KnA kn ak av ac ck cv cc) 40)
  have n1 := BX.new w 40 (KnA kn ak av ac ck cv cc)
  obtain ⟨G, hG⟩ : ∃ g, g = w.heap.size := ⟨_, rfl⟩
  rw [← hG] at n1
  obtain ⟨W1, hW1⟩ : ∃ W, W = w.alloc (.cells (KnA kn ak av ac ck cv cc) 40) := ⟨_, rfl⟩
  rw [← hW1] at hx n1
  unfold KnA at hW1 n1
  have HW := Lib.hid (show G = w.heap.size ∧ _ from ⟨hG, hW1⟩)
  have HX := Lib.hid hx
  have k0 := n1.cell 0 rfl
  have k3 := n1.cell 3 rfl
  have k4 := n1.cell 4 rfl
  have k5 := n1.cell 5 rfl
  have k6 := n1.cell 6 rfl
  have k7 := n1.cell 7 rfl
  have k8 := n1.cell 8 rfl
  have k9 := n1.cell 9 rfl
  have k10 := n1.cell 10 rfl
  have HC := Lib.hid (isRoot_any kn.n.lv kn.n.nx kn.n.lo kn.n.hi kn.n.la ak av ac kn.n.ks.length ck kn.n.vs.length cv kn.n.cs.length cc W1)
  obtain ⟨rb, hrb⟩ : ∃ rb, rb = rootP kn.n.lv kn.n.lo kn.n.la kn.n.ks.length := ⟨_, rfl⟩
  rw [← hrb] at HC ⊢
  clear hx n1 hG hW1 hnd hv hrb
  by_cases h1 : kn.c = 0
  · rw [decide_eq_true h1]
    have h1' : (kn.c == 0) = true := beq_iff_eq.2 h1
    clear h1
    go_enter Try.func45, Try.ntmps45
    go_upto_region 1 with fail
    rw [← HW.out.1, ← HW.out.2]
    clear HW
    go_wp2_with fail
    refine HC.out.mono ?_
    rintro e w4 ⟨rfl, hb4⟩
    have HB4 := Lib.hid (HX.out.trans (hb4.mono HX.out.size))
    clear hb4 k0 k3 k4 k5 k6 k7 k8 k9 k10
    cases rb with
    | true =>
      go_wp2
      go_ret
      exact ⟨rfl, HB4.out⟩
    | false =>
      go_wp2
      go_ret
      exact ⟨rfl, HB4.out⟩
  · rw [decide_eq_false h1]
    have h1' : (kn.c == 0) = false := beq_eq_false_iff_ne.2 h1
    clear h1
    go_enter Try.func45, Try.ntmps45
    go_upto_region 1 with fail
    rw [← HW.out.1, ← HW.out.2]
    clear HW
    go_wp2
    go_ret
    exact ⟨rfl, HX.out⟩
set_option maxHeartbeats 4000000 in
set_option maxRecDepth 100000 in
theorem fot4_any (w0 : World) (cb bn bp n N : Nat) (ks : List Kn) (kn : Kn) (v : Value) (w : World) (hT : TrAt w0 w cb bn bp n N ks) (hv : KnV w v kn) (hW : WfK kn) :
    Calls Try.prog 54 #[v, .pointer (some ⟨cb, 0, none⟩)] w fun e w' => e = .returned (.bool (!kn.n.la && !goesP ks kn.n.lv kn.n.nx kn.n.hi)) ∧ Below w.heap.size w w' := by
  obtain ⟨ak, av, ac, ck, cv, cc, rfl, hnd⟩ := kn_open hv
  have hx := boxed_below w (.cells (KnA kn ak av ac ck cv cc) 40)
  have n1 := BX.new w 40 (KnA kn ak av ac ck cv cc)
  obtain ⟨G, hG⟩ : ∃ g, g = w.heap.size := ⟨_, rfl⟩
  rw [← hG] at n1
  obtain ⟨W1, hW1⟩ : ∃ W, W = w.alloc (.cells (KnA kn ak av ac ck cv cc) 40) := ⟨_, rfl⟩
  rw [← hW1] at hx n1
  unfold KnA at hW1 n1
  have HW := Lib.hid (show G = w.heap.size ∧ _ from ⟨hG, hW1⟩)
  have HX := Lib.hid hx
  have k0 := n1.cell 0 rfl
  have k3 := n1.cell 3 rfl
  have k4 := n1.cell 4 rfl
  have k5 := n1.cell 5 rfl
  have k6 := n1.cell 6 rfl
  have k7 := n1.cell 7 rfl
  have k8 := n1.cell 8 rfl
  have k9 := n1.cell 9 rfl
  have k10 := n1.cell 10 rfl
  have HC := Lib.hid (goesOn_any w0 bn bp n ks kn.n.lv kn.n.nx kn.n.lo kn.n.hi kn.n.la ak av ac kn.n.ks.length ck kn.n.vs.length cv kn.n.cs.length cc W1 (hT.nm.keep hx) hW.nx)
  have t0 := (hT.b.below hx).cell 0 rfl
  have t1 := (hT.b.below hx).cell 1 rfl
  obtain ⟨gb, hgb⟩ : ∃ gb, gb = goesP ks kn.n.lv kn.n.nx kn.n.hi := ⟨_, rfl⟩
  rw [← hgb] at HC ⊢
  obtain ⟨la, hla⟩ : ∃ la, la = kn.n.la := ⟨_, rfl⟩
  rw [← hla] at HC HW k6 ⊢
  clear hx n1 hG hW1 hnd hv hgb hT hW hla
  cases la with
  | true =>
    go_enter Try.func54, Try.ntmps54
    go_upto_region 1 with fail
    rw [← HW.out.1, ← HW.out.2]
    clear HW
    go_wp2
    go_ret
    exact ⟨rfl, HX.out⟩
  | false =>
    go_enter Try.func54, Try.ntmps54
    go_upto_region 1 with fail
    rw [← HW.out.1, ← HW.out.2]
    clear HW
    go_wp2_with fail
    refine HC.out.mono ?_
    rintro e w4 ⟨rfl, hb4⟩
    have HB4 := Lib.hid (HX.out.trans (hb4.mono HX.out.size))
    clear hb4 k0 k3 k4 k5 k6 k7 k8 k9 k10 t0 t1
    cases gb with
    | true =>
      go_wp2
      go_ret
      exact ⟨rfl, HB4.out⟩
    | false =>
      go_wp2
      go_ret
      exact ⟨rfl, HB4.out⟩
set_option maxHeartbeats 4000000 in
set_option maxRecDepth 100000 in
theorem fot5_any (cb f : Nat) (kn : Kn) (v : Value) (w : World) (hb : BX w cb 3 #[.int .i64 (f : Nat)]) (hf : f ≤ 64) (hv : KnV w v kn) :
    Calls Try.prog 56 #[v, .pointer (some ⟨cb, 0, none⟩)] w fun e w' => e = .returned (.bool (decide (kn.c ≠ 0) && decide (kn.n.ks.length < leastN kn.n.lv f))) ∧ Below w.heap.size w w' := by
  obtain ⟨ak, av, ac, ck, cv, cc, rfl, hnd⟩ := kn_open hv
  have hx := boxed_below w (.cells (KnA kn ak av ac ck cv cc) 40)
  have n1 := BX.new w 40 (KnA kn ak av ac ck cv cc)
  obtain ⟨G, hG⟩ : ∃ g, g = w.heap.size := ⟨_, rfl⟩
  rw [← hG] at n1
  obtain ⟨W1, hW1⟩ : ∃ W, W = w.alloc (.cells (KnA kn ak av ac ck cv cc) 40) := ⟨_, rfl⟩
  rw [← hW1] at hx n1
  unfold KnA at hW1 n1
  have HW := Lib.hid (show G = w.heap.size ∧ _ from ⟨hG, hW1⟩)
  have HX := Lib.hid hx
  have k0 := n1.cell 0 rfl
  have k3 := n1.cell 3 rfl
  have k4 := n1.cell 4 rfl
  have k5 := n1.cell 5 rfl
  have k6 := n1.cell 6 rfl
  have k7 := n1.cell 7 rfl
  have k8 := n1.cell 8 rfl
  have k9 := n1.cell 9 rfl
  have k10 := n1.cell 10 rfl
  have HC := Lib.hid (fun W => (least_any kn.n.lv f W hf).mono (fun e w' h => (show e = .returned (.int .i64 (leastN kn.n.lv f : Nat)) ∧ w' = W from ⟨h.1, h.2.symm⟩)))
  have t0 := (hb.below hx).cell 0 rfl
  obtain ⟨z, hz⟩ : ∃ z, z = leastN kn.n.lv f := ⟨_, rfl⟩
  rw [← hz] at HC ⊢
  obtain ⟨c, hc⟩ : ∃ c, c = kn.c := ⟨_, rfl⟩
  obtain ⟨m, hm⟩ : ∃ m, m = kn.n.ks.length := ⟨_, rfl⟩
  rw [← hc, ← hm]
  rw [← hc, ← hm] at HW
  rw [← hc] at k0
  rw [← hm] at k8
  clear hx n1 hG hW1 hnd hv hz hb hc hm
  by_cases h1 : c = 0
  · subst h1
    go_enter Try.func56, Try.ntmps56
    go_upto_region 1 with fail
    rw [← HW.out.1, ← HW.out.2]
    clear HW
    go_quiet (fail)
    have HX2 := HX.out
    go_wp2
    go_ret
    exact ⟨rfl, ⟨HX2.os, HX2.tape, HX2.output, HX2.size, HX2.block⟩⟩
  · have h1' : (c != 0) = true := by rw [bne_iff_ne]; exact h1
    have h1'' : (c == 0) = false := beq_eq_false_iff_ne.2 h1
    by_cases h2 : m < z
    · rw [decide_eq_true h1, decide_eq_true h2]
      have h2' : (m : Int) < z := by omega
      clear h1
      go_enter Try.func56, Try.ntmps56
      go_upto_region 1 with fail
      rw [← HW.out.1, ← HW.out.2]
      clear HW
      go_quiet ((go_at_call 57; exact Calls.quiet_of_same (HC.out _)))
      have HX2 := HX.out
      go_wp2
      go_ret
      exact ⟨rfl, ⟨HX2.os, HX2.tape, HX2.output, HX2.size, HX2.block⟩⟩
    · rw [decide_eq_true h1, decide_eq_false h2]
      have h2' : decide ((m : Int) < z) = false := decide_eq_false (by omega)
      clear h1
      go_enter Try.func56, Try.ntmps56
      go_upto_region 1 with fail
      rw [← HW.out.1, ← HW.out.2]
      clear HW
      go_quiet ((go_at_call 57; exact Calls.quiet_of_same (HC.out _)))
      have HX2 := HX.out
      go_wp2
      go_ret
      exact ⟨rfl, ⟨HX2.os, HX2.tape, HX2.output, HX2.size, HX2.block⟩⟩
set_option maxHeartbeats 4000000 in
set_option maxRecDepth 100000 in
theorem fot6_any (cb b N : Nat) (f : Int → Nat) (kn : Kn) (v : Value) (w : World) (hb : BX w cb 53 #[.map (some b)]) (hm : IM w b N f) (hv : KnV w v kn) (hW : WfK kn) :
    Calls Try.prog 58 #[v, .pointer (some ⟨cb, 0, none⟩)] w fun e w' => e = .returned (.bool (decide (f kn.c = 0))) ∧ Below w.heap.size w w' := by
  obtain ⟨ak, av, ac, ck, cv, cc, rfl, hnd⟩ := kn_open hv
  have hx := boxed_below w (.cells (KnA kn ak av ac ck cv cc) 40)
  have n1 := BX.new w 40 (KnA kn ak av ac ck cv cc)
  obtain ⟨G, hG⟩ : ∃ g, g = w.heap.size := ⟨_, rfl⟩
  rw [← hG] at n1
  obtain ⟨W1, hW1⟩ : ∃ W, W = w.alloc (.cells (KnA kn ak av ac ck cv cc) 40) := ⟨_, rfl⟩
  rw [← hW1] at hx n1
  unfold KnA at hW1 n1
  have HW := Lib.hid (show G = w.heap.size ∧ _ from ⟨hG, hW1⟩)
  have HX := Lib.hid hx
  have k0 := n1.cell 0 rfl
  have k3 := n1.cell 3 rfl
  have k4 := n1.cell 4 rfl
  have k5 := n1.cell 5 rfl
  have k6 := n1.cell 6 rfl
  have k7 := n1.cell 7 rfl
  have k8 := n1.cell 8 rfl
  have k9 := n1.cell 9 rfl
  have k10 := n1.cell 10 rfl
  have hlook := (hm.keep hx).look hW.c
  have t0 := (hb.below hx).cell 0 rfl
  obtain ⟨z, hz⟩ : ∃ z, z = f kn.c := ⟨_, rfl⟩
  rw [← hz] at hlook ⊢
  clear hx n1 hG hW1 hnd hv hz hb hm hW
  by_cases h1 : z = 0
  · subst h1
    go_enter Try.func58, Try.ntmps58
    go_upto_region 1 with fail
    rw [← HW.out.1, ← HW.out.2]
    clear HW
    go_wp2
    go_ret
    exact ⟨rfl, HX.out⟩
  · have h1' : ((z : Int) == 0) = false := beq_eq_false_iff_ne.2 (by omega)
    rw [decide_eq_false h1]
    clear h1
    go_enter Try.func58, Try.ntmps58
    go_upto_region 1 with fail
    rw [← HW.out.1, ← HW.out.2]
    clear HW
    go_wp2
    go_ret
    exact ⟨rfl, HX.out⟩
end Go.Proofs.Ytgaacoeggikbpaa

namespace Go.Proofs.Ytgaacoeggikbpaa
open Go.RowKit Go.Maps

/-- A cell's kids. -/
def nk (ks : List Kn) (c : Int) : List Int := (nodOf ks c).cs
/-- What is reached from the root on. -/
inductive Rch (ks : List Kn) : Int → Prop
  | root : Rch ks 0
  | kid {c x : Int} : Rch ks c → x ∈ nk ks c → Rch ks x
theorem nodup_len : ∀ (l m : List Int), l.Nodup → (∀ x ∈ l, x ∈ m) → l.length ≤ m.length
  | [], _, _, _ => Nat.zero_le _
  | x :: l, m, hn, hs => by
    have hx := hs x (List.mem_cons_self ..)
    rw [List.nodup_cons] at hn
    have h2 := nodup_len l (m.erase x) hn.2 (fun y hy => (List.mem_erase_of_ne (fun e => hn.1 (by rw [← e]; exact hy))).2 (hs y (List.mem_cons_of_mem _ hy)))
    rw [List.length_erase_of_mem hx] at h2
    have h3 := List.length_pos_of_mem hx
    simp only [List.length_cons]
    omega
theorem nk_kids {ks : List Kn} {c x : Int} (h : x ∈ nk ks c) : x ∈ kids ks := by
  unfold nk nodOf at h
  cases hk : kfind ks c with
  | none => rw [hk] at h; cases h
  | some k =>
    rw [hk] at h
    unfold kfind at hk
    exact List.mem_flatMap.2 ⟨k, List.mem_of_find?_eq_some hk, h⟩
/-- A row of numbers in a block. -/
def IntR (w : World) (B g c : Nat) (q : List Int) : Prop := B ≤ g ∧ q.length ≤ c ∧ c ≤ maxLen ∧ ∃ cur, w.heap[g]? = some (.cells cur 3 (0, 0)) ∧ cur.size = c ∧ cur.toList.take q.length = q.map (Value.int .i64)
section
variable {w w' : World} {B g c : Nat} {q : List Int}
theorem IntR.own (h : IntR w B g c q) : w.ownsRow B 3 1 (.slice (some ⟨g, 0, none⟩) q.length c) q.length (q.map (Value.int .i64)) := by
  obtain ⟨h1, h2, h3, cur, h5, h6, h7⟩ := h
  exact ⟨by rw [List.length_map, Nat.mul_one], Or.inr ⟨g, c, cur, rfl, h1, h5, h2, h3, by rw [h6, Nat.mul_one], by rw [Nat.mul_one]; exact h7⟩⟩
theorem IntR.of {v : Value} (h : w.ownsRow B 3 1 v q.length (q.map (Value.int .i64))) (hq : q ≠ []) : ∃ g c, v = .slice (some ⟨g, 0, none⟩) q.length c ∧ IntR w B g c q := by
  rcases h.2 with ⟨_, e⟩ | ⟨g, c, cur, e, h1, h2, h3, h4, h5, h6⟩
  · exact absurd (List.eq_nil_of_length_eq_zero e) hq
  · rw [Nat.mul_one] at h5 h6
    exact ⟨g, c, e, h1, h3, h4, cur, h2, h5, h6⟩
theorem IntR.block (h : IntR w B g c q) (hb : w'.heap[g]? = w.heap[g]?) : IntR w' B g c q := by
  obtain ⟨h1, h2, h3, cur, h5, h6⟩ := h
  exact ⟨h1, h2, h3, cur, hb.trans h5, h6⟩
theorem IntR.lt (h : IntR w B g c q) : g < w.heap.size := by
  obtain ⟨h1, h2, h3, cur, h5, h6⟩ := h
  exact lt_of_block h5
theorem IntR.obj (h : IntR w B g c q) : ∃ o, w.heap[g]? = some o ∧ o.isCells = true := by
  obtain ⟨h1, h2, h3, cur, h5, h6⟩ := h
  exact ⟨_, h5, rfl⟩
theorem IntR.at_ (h : IntR w B g c q) {j : Nat} (hj : j < q.length) : w.cell? ⟨g, j, none⟩ = some (.int .i64 (ni q j)) := by
  have h1 := h.own.cellAt j (by rw [Nat.mul_one]; exact hj)
  rw [h1, List.getElem?_map, List.getElem?_eq_getElem hj, ni_eq hj]
  rfl
end
theorem IM.obj {w : World} {b N : Nat} {f : Int → Nat} (h : IM w b N f) : ∃ o, w.heap[b]? = some o ∧ o.isWalk = true := by
  obtain ⟨D, ⟨es, cl, hb, _⟩, _⟩ := h
  exact ⟨_, hb, rfl⟩
theorem NM.obj {w0 w : World} {b N : Nat} {ks : List Kn} (h : NM w0 w b N ks) : ∃ o, w.heap[b]? = some o ∧ o.isWalk = true := by
  obtain ⟨D, ⟨es, cl, hb, _⟩, _⟩ := h
  exact ⟨_, hb, rfl⟩
theorem Kept.nm {b bn N : Nat} {w0 A C : World} {ks : List Kn} (h : Kept b A C) (hm : NM w0 A bn N ks) (hne : bn ≠ b) : NM w0 C bn N ks := by
  obtain ⟨o, h1, h2⟩ := hm.obj
  exact hm.block ((h.same bn o hne h1 (Or.inr h2)).trans h1.symm)
theorem Kept.im {b m N : Nat} {A C : World} {f : Int → Nat} (h : Kept b A C) (hm : IM A m N f) (hne : m ≠ b) : IM C m N f := by
  obtain ⟨o, h1, h2⟩ := hm.obj
  exact hm.block ((h.same m o hne h1 (Or.inr h2)).trans h1.symm)
theorem Kept.row {b g B c : Nat} {A C : World} {q : List Int} (h : Kept b A C) (hr : IntR A B g c q) (hne : g ≠ b) : IntR C B g c q := by
  obtain ⟨o, h1, h2⟩ := hr.obj
  exact hr.block ((h.same g o hne h1 (Or.inl h2)).trans h1.symm)
/-- The iterator's state. -/
structure RS (ks : List Kn) (W wr : World) (b m g c : Nat) (q : List Int) : Prop where
  im : IM wr m q.length (fun x => if x ∈ q then 1 else 0)
  row : IntR wr W.heap.size g c q
  kw : Kept b W wr
  hm : W.heap.size ≤ m
  nd : q.Nodup
  rc : ∀ x ∈ q, Rch ks x
  z : 0 ∈ q
theorem RS.many {ks : List Kn} {W wr : World} {b m g c : Nat} {q : List Int} (h : RS ks W wr b m g c q) : q.length ≤ (kids ks).length + 1 := by
  have h1 := nodup_len q (0 :: kids ks) h.nd (fun x hx => by
    cases h.rc x hx with
    | root => exact List.mem_cons_self ..
    | kid _ hk => exact List.mem_cons_of_mem _ (nk_kids hk))
  simpa using h1
theorem RS.keep {ks : List Kn} {W wr w' : World} {b m g c : Nat} {q : List Int} (h : RS ks W wr b m g c q) (hk : Kept b wr w') (hb : b < W.heap.size) : RS ks W w' b m g c q :=
  ⟨hk.im h.im (by have := h.hm; omega), hk.row h.row (by have := h.row.1; omega), h.kw.trans hk, h.hm, h.nd, h.rc, h.z⟩
/-- All that is reached. -/
def AllR (ks : List Kn) (xs : List Int) : Prop := xs.Nodup ∧ ∀ c, c ∈ xs ↔ Rch ks c
theorem allR_of {ks : List Kn} {q : List Int} (hn : q.Nodup) (hr : ∀ x ∈ q, Rch ks x) (hz : 0 ∈ q) (hc : ∀ j, j < q.length → ∀ x ∈ nk ks (ni q j), x ∈ q) : AllR ks q :=
  ⟨hn, fun c => ⟨hr c, fun h => by
    induction h with
    | root => exact hz
    | kid _ hx ih =>
      obtain ⟨j, hj, e⟩ := List.getElem_of_mem ih
      exact hc j hj _ (by rw [ni_eq hj, e]; exact hx)⟩⟩
theorem reachedIt_any (a b : Option Nat) (w : World) : Calls Try.prog 44 #[.agg #[.map a, .map b]] w fun e w' => e = .returned (.func (.func 73) #[] #[.pointer (some ⟨w.heap.size, 0, none⟩)]) ∧ w' = w.alloc (.cells #[.map a, .map b] 55) := by
  go_enter Try.func44, Try.ntmps44
  go_wp2
  go_ret
  exact ⟨rfl, rfl⟩
end Go.Proofs.Ytgaacoeggikbpaa

namespace Go.Proofs.Ytgaacoeggikbpaa
open Go.RowKit Go.Maps Go.Shelf
attribute [local go_sem] Oper.semAt_some

theorem infoI : (Try.prog.info? 3).map (fun i => (i.zero, i.size, i.bytes)) = some (some (.int .i64 0), 1, 8) := by kernel_rfl
theorem Stp.alloc {B : Nat} {A : World} (o : Obj) (h : B ≤ A.heap.size) : Stp B A (A.alloc o) :=
  ⟨(Below.refl _ A).alloc h o, fun k _ hk _ _ => (Below.heap_alloc A o k (Array.getElem?_eq_some_iff.1 hk).1).trans hk⟩
theorem Stp.turn {B m : Nat} {A C : World} (ht : Turn (fun j => j = m) A C) (hB : B ≤ m) (hA : B ≤ A.heap.size) (ho : ∃ o, A.heap[m]? = some o ∧ o.isWalk = true) : Stp B A C :=
  ⟨ht.below (fun j e => by rw [show j = m from e]; exact hB) hA, fun k x hk _ h2 => (ht.block k (Array.getElem?_eq_some_iff.1 hk).1 (fun e => by
    obtain ⟨o, h3, h4⟩ := ho
    rw [show k = m from e] at hk
    rw [h3] at hk
    cases hk
    rw [h4] at h2
    cases h2)).trans hk⟩
theorem Stp.grown {B : Nat} {A C : World} {row : Option Nat} (hg : A.grownBy C row) (hA : B ≤ A.heap.size) (hr : ∀ k, row = some k → B ≤ k ∧ ∃ o, A.heap[k]? = some o ∧ o.isCells = true) : Stp B A C :=
  ⟨(Below.refl _ A).grown hg hA (fun k e => (hr k e).1), fun k x hk h1 _ => (hg.block k (Array.getElem?_eq_some_iff.1 hk).1 (fun e => by
    obtain ⟨o, h3, h4⟩ := (hr k e.symm).2
    rw [h3] at hk
    cases hk
    rw [h4] at h1
    cases h1)).trans hk⟩
theorem Stp.drew {B : Nat} {A C : World} (h : Stp B A C) : Stp B A C.drew := ⟨h.b.drew, h.o⟩
set_option maxHeartbeats 4000000 in
set_option maxRecDepth 100000 in
theorem reached_in (n : Nat) (hn : 1 ≤ n) (l cb bn bp nn N b : Nat) (ks : List Kn) (w0 W : World) (J : List Int → World → Prop)
    (hab : ∀ s A C, J s A → Stp W.heap.size A C → J s C)
    (hY : ∀ pre (x : Int) A, (Lit.int .i64 x).wf = true → J pre A → pre.length < (kids ks).length + 1 → YieldAt Fence.wide (n - 1) Try.prog l #[.int .i64 x] A fun e C => e = .returned (.bool true) ∧ J (pre ++ [x]) C ∧ Kept b A C)
    (hT : TrAt w0 W cb bn bp nn N ks) (hw0 : Below w0.heap.size w0 W) (hb : b < W.heap.size) (hcb : cb ≠ b) (hbn : bn ≠ b) (hw0b : w0.heap.size ≤ b) (hwf : ∀ x ∈ kids ks, (Lit.int .i64 x).wf = true) (h80 : ∀ c, (nk ks c).length ≤ 80) (hkl : (kids ks).length ≤ 80000000) (h0 : J [] W) :
    CallsIn Fence.wide n Try.prog 73 #[.func (.yield l) #[] #[], .pointer (some ⟨cb, 0, none⟩)] W fun e C => (∃ v, e = .returned v) ∧ ∃ xs, AllR ks xs ∧ J xs C := by
  have hmk : ∀ W, (Instr.makeMap 53 none).run Try.prog W = .ok (.map (some W.heap.size)) (W.alloc (.map #[] 0)) := fun W => run_makeMap _ W
  obtain ⟨m, hm⟩ : ∃ m, m = W.heap.size := ⟨_, rfl⟩
  have m1 := IM.made W
  obtain ⟨w1, hrun, hm1, ht1⟩ := m1.store (x := 0) (by omega) (by decide) 1 (by decide)
  rw [show (((1 : Nat)) : Int) = 1 from rfl] at hrun
  have s1 := ht1.size
  rw [World.size_alloc] at s1
  have hst : Stp W.heap.size W w1 := (Stp.alloc (.map #[] 0) (Nat.le_refl _)).trans (Stp.turn ht1 (Nat.le_refl _) (by rw [World.size_alloc]; omega) m1.obj)
  have hst2 := hst.trans (Stp.alloc (.cells #[.int .i64 0] 3) (by omega : W.heap.size ≤ w1.heap.size))
  have hrs : RS ks W (w1.alloc (.cells #[.int .i64 0] 3)) b m w1.heap.size 1 [0] := by
    refine ⟨?_, ?_, (Kept.refl b W).below hst2.b, by omega, by simp, fun x hx => by rw [List.mem_singleton.1 hx]; exact .root, by simp⟩
    · rw [hm, show (fun x => if x ∈ [0] then 1 else 0) = (fun c : Int => if c = 0 then 1 else 0) from by funext x; simp]
      exact hm1.keep ((Below.refl w1.heap.size w1).alloc (Nat.le_refl _) _)
    · exact ⟨by omega, Nat.le_refl _, by decide, #[.int .i64 0], heap_alloc_new w1 _, rfl, rfl⟩
  have HRS := Lib.hid hrs
  have HJ0 := Lib.hid (hab _ _ _ h0 hst2)
  have HY := Lib.hid hY
  have HAB := Lib.hid hab
  have HT := Lib.hid hT
  have HB := Lib.hid (show _ ∧ _ ∧ _ ∧ _ ∧ _ from ⟨hb, hcb, hbn, hw0b, hw0⟩)
  have HWF := Lib.hid hwf
  have H80 := Lib.hid h80
  have HM := Lib.hid hm
  obtain ⟨i0, hi9, hz0, hz1, hz2⟩ := info_parts infoI
  have HI := Lib.hid (show _ ∧ _ ∧ _ ∧ _ from ⟨hi9, hz0, hz1, hz2⟩)
  clear hi9 hz0 hz1 hz2 hrs hst hst2 hY hab hT hb hcb hbn hw0b hw0 hwf h80 h0 hm m1 hm1 ht1 s1
  refine callsIn_of_wp Try.func73 rfl trivial ?_ rfl
  simp only [Try.ntmps73, List.size_toArray, List.length_cons, List.length_nil, Nat.reduceAdd, Nat.reduceSub, Array.replicate_succ, Array.replicate_zero, List.push_toArray, List.append_toArray, List.nil_append, List.cons_append]
  gi_wp2
  rw [← HM.out]
  clear hrun
  gi_loopw [4, 5] (fun v4 v5 wr => ∃ (i g c nq : Nat) (q : List Int), v4 = .slice (some ⟨g, 0, none⟩) nq c ∧ v5 = .int .i64 i ∧ i ≤ nq ∧ Hid (nq = q.length ∧ RS ks W wr b m g c q ∧ (∀ j, j < i → ∀ x ∈ nk ks (ni q j), x ∈ q)) ∧ Hid (J (q.take i) wr)) (fun _ v5 _ => (kids ks).length + 1 - (intOf v5).toNat)
  case atStart => exact ⟨0, w1.heap.size, 1, 1, [0], rfl, rfl, Nat.zero_le _, Lib.hid ⟨rfl, HRS.out, fun j h => absurd h (Nat.not_lt_zero _)⟩, HJ0⟩
  case round =>
    obtain ⟨i, g, c, nq, q, rfl, rfl, hi, HS, HJ⟩ := hrel
    have hmany := HS.out.2.1.many
    have hnq := HS.out.1
    by_cases hlt : i < nq
    · obtain ⟨x, hx⟩ : ∃ x, x = ni q i := ⟨_, rfl⟩
      have hcell : wr.cell? ⟨g, i, none⟩ = some (.int .i64 x) := by rw [hx]; exact HS.out.2.1.row.at_ (by omega)
      have hlt' : (i : Int) < nq := by omega
      have hnc : nq ≤ c := by have := HS.out.2.1.row.2.1; omega
      have hxq : x ∈ q := by rw [hx, ni_eq (by omega)]; exact List.getElem_mem _
      have hxwf : (Lit.int .i64 x).wf = true := by
        cases HS.out.2.1.rc x hxq with
        | root => decide
        | kid _ hk => exact HWF.out _ (nk_kids hk)
      obtain ⟨fn, tmps, assign, body, hy, hR⟩ := HY.out (q.take i) x wr hxwf HJ.out (by rw [List.length_take]; omega)
      have HX := Lib.hid (show x = ni q i ∧ x ∈ q ∧ q.take (i + 1) = q.take i ++ [x] from ⟨hx, hxq, by rw [List.take_succ_eq_append_getElem (by omega), hx, ni_eq (by omega)]⟩)
      clear hx hnq hmany hxq
      gi_wp2
      refine hR.mono ?_
      rintro e W3 ⟨rfl, hJ3, hk3⟩
      have hs3 := HS.out.2.1.keep hk3 HB.out.1
      rw [← HX.out.2.2] at hJ3
      have hcell3 : W3.cell? ⟨g, i, none⟩ = some (.int .i64 x) := by rw [HX.out.1]; exact hs3.row.at_ (by have := HS.out.1; omega)
      have t0 : W3.cell? ⟨cb, 0, none⟩ = some (.map (some bn)) := (hs3.kw.bx HT.out.b HB.out.2.1).cell 0 rfl
      obtain ⟨v, hv, hl0⟩ := (hs3.kw.nm HT.out.nm HB.out.2.2.1).lookAll hxwf
      obtain ⟨mak, mav, mac, mck, mcv, mcc, rfl, hnd⟩ := nod_open hv
      obtain ⟨kc, hkc⟩ : ∃ kc, kc = (nodOf ks x).cs.length := ⟨_, rfl⟩
      have HKC := Lib.hid (show kc = (nk ks x).length from hkc)
      have HND := Lib.hid hnd.c
      rw [← hkc] at hl0 HND
      have hl3 := (hl0 W3 (Below.refl _ _)).1
      have hl4 := (hl0 W3.drew (Below.refl _ _).drew).1
      have HS3 := Lib.hid (show nq = q.length ∧ RS ks W W3 b m g c q ∧ (∀ j, j < i → ∀ x ∈ nk ks (ni q j), x ∈ q) from ⟨HS.out.1, hs3, HS.out.2.2⟩)
      have HJ3 := Lib.hid hJ3
      have hfl : ∀ V, (Instr.field 38 (.agg #[.int .i64 (nodOf ks x).lv, .string (nodOf ks x).lo, .string (nodOf ks x).hi, .bool (nodOf ks x).la, .int .i64 (nodOf ks x).nx, .slice mak (nodOf ks x).ks.length mck, .slice mav (nodOf ks x).vs.length mcv, .slice mac kc mcc]) 7).run Try.prog V = .ok (.slice mac kc mcc) V := fun V => rfl
      clear hs3 hJ3 hv hl0 hnd hkc hk3 hxwf HS HJ hcell hR hy
      gi_wp2
      gi_region
      obtain ⟨W4, hW4⟩ : ∃ V, V = W3.drew := ⟨_, rfl⟩
      have HS4 := Lib.hid (show nq = q.length ∧ RS ks W W4 b m g c q ∧ (∀ j, j < i → ∀ x ∈ nk ks (ni q j), x ∈ q) ∧ (∀ y ∈ (nk ks x).take 0, y ∈ q) ∧ x = ni q i from by
        rw [hW4]
        exact ⟨HS3.out.1, HS3.out.2.1.keep (Kept.below (Kept.refl b W3) (Below.refl _ _).drew) HB.out.1, HS3.out.2.2, (by simp), HX.out.1⟩)
      have HJ4 := Lib.hid (show J (q.take (i + 1)) W4 from by rw [hW4]; exact HAB.out _ _ _ HJ3.out (Stp.refl _ _).drew)
      rw [← hW4]
      clear hW4 HS3 HJ3 hl3 hl4 hfl t0 hcell3
      gi_wp2
      gi_loopw [4, 33] (fun v4 v33 wr => ∃ (j g c nq : Nat) (q : List Int), v4 = .slice (some ⟨g, 0, none⟩) nq c ∧ v33 = .int .i64 j ∧ j ≤ kc ∧ i < nq ∧ Hid (nq = q.length ∧ RS ks W wr b m g c q ∧ (∀ j, j < i → ∀ x ∈ nk ks (ni q j), x ∈ q) ∧ (∀ y ∈ (nk ks x).take j, y ∈ q) ∧ x = ni q i) ∧ Hid (J (q.take (i + 1)) wr)) (fun _ v33 _ => kc - (intOf v33).toNat)
      case atStart => exact ⟨0, g, c, nq, q, rfl, rfl, Nat.zero_le _, hlt, HS4, HJ4⟩
      case round =>
        clear HS4 HJ4 hlt hlt' hnc HX hi
        obtain ⟨j, g, c, nq, q, rfl, rfl, hj, hin, HS, HJ⟩ := hrel
        obtain ⟨wx, hwx⟩ : ∃ V : World, V = wr := ⟨_, rfl⟩
        rw [← hwx] at HS HJ ⊢
        clear hwx
        by_cases hlj : j < kc
        · obtain ⟨g2, o2, rfl, hc2⟩ := rd_at HND.out (0 : Int) j hlj
          obtain ⟨y, hy⟩ : ∃ y, y = ni (nk ks x) j := ⟨_, rfl⟩
          have hcell : wx.cell? ⟨g2, o2 + j, none⟩ = some (.int .i64 y) := by
            have h1 := hc2 j hlj
            have hlt2 := World.block_lt_of_cell? w0 _ h1
            rw [hy]
            exact HS.out.2.1.kw.cell (by have := HB.out.2.2.2.1; simp at hlt2; omega) ((HB.out.2.2.2.2.cell (p := ⟨g2, o2 + j, none⟩) hlt2).trans h1)
          have hlj' : (j : Int) < kc := by omega
          have hkcc : kc ≤ mcc := (rd_len HND.out).2.1
          have hk80 : kc ≤ 80 := by rw [HKC.out]; exact H80.out x
          have hyk : y ∈ nk ks x := by rw [hy, ni_eq (by have := HKC.out; omega)]; exact List.getElem_mem _
          have hywf : (Lit.int .i64 y).wf = true := HWF.out _ (nk_kids hyk)
          have htk : (nk ks x).take (j + 1) = (nk ks x).take j ++ [y] := by
            have := HKC.out
            rw [List.take_succ_eq_append_getElem (by omega), hy, ni_eq (by omega)]
          have HY9 := Lib.hid (show y ∈ nk ks x ∧ (nk ks x).take (j + 1) = (nk ks x).take j ++ [y] from ⟨hyk, htk⟩)
          have hlook := HS.out.2.1.im.look hywf
          have hrow := HS.out.2.1.row
          have hqc := hrow.2.1
          have hcm := hrow.2.2.1
          have hmany := HS.out.2.1.many
          have hnq := HS.out.1
          by_cases hyq : y ∈ q
          · rw [if_pos hyq] at hlook
            have HS2 := Lib.hid (show nq = q.length ∧ RS ks W wx b m g c q ∧ (∀ j, j < i → ∀ x ∈ nk ks (ni q j), x ∈ q) ∧ (∀ y ∈ (nk ks x).take (j + 1), y ∈ q) ∧ x = ni q i from ⟨HS.out.1, HS.out.2.1, HS.out.2.2.1, (by
              rw [htk]
              intro u hu
              rcases List.mem_append.1 hu with hu | hu
              · exact HS.out.2.2.2.1 u hu
              · rw [List.mem_singleton.1 hu]; exact hyq), HS.out.2.2.2.2⟩)
            clear hc2 hy hyk hywf htk hrow hqc hcm hmany hnq hyq
            gi_wp2
            go_roundw
            case rel => exact ⟨j + 1, g, c, nq, q, rfl, by go_num, by omega, hin, HS2, HJ⟩
            case measure => simp [intOf]; omega
          · rw [if_neg hyq] at hlook
            obtain ⟨w5, hrun, hm5, ht5⟩ := HS.out.2.1.im.store (by omega) hywf 1 (by decide)
            rw [show (((1 : Nat)) : Int) = 1 from rfl] at hrun
            have hB := HS.out.2.1.kw.size
            have st5 : Stp W.heap.size wx w5 := Stp.turn ht5 HS.out.2.1.hm hB HS.out.2.1.im.obj
            have s5 := st5.b.size
            have sa := st5.trans (Stp.alloc (.cells #[.int .i64 y] 3) (Nat.le_trans hB s5))
            have hrow5 : IntR w5 W.heap.size g c q := hrow.block (ht5.block g hrow.lt (fun e => by
              obtain ⟨o, h1, h2⟩ := hrow.obj
              obtain ⟨o', h3, h4⟩ := HS.out.2.1.im.obj
              rw [show g = m from e] at h1
              rw [h3] at h1
              cases h1
              rw [Obj.not_cells_of_walk h4] at h2
              cases h2))
            have hrowA : IntR (w5.alloc (.cells #[.int .i64 y] 3)) W.heap.size g c q := hrow5.block (Below.heap_alloc w5 _ g hrow5.lt)
            have hmA := hm5.keep ((Below.refl w5.heap.size w5).alloc (Nat.le_refl _) (.cells #[.int .i64 y] 3))
            have HSA := Lib.hid sa
            have HRA := Lib.hid hrowA
            have HMA := Lib.hid hmA
            have HOW := Lib.hid (show (w5.alloc (.cells #[.int .i64 y] 3)).ownsRow W.heap.size 3 1 (.slice (some ⟨g, 0, none⟩) nq c) nq (q.map (Value.int .i64)) by rw [hnq]; exact hrowA.own)
            have HNW := Lib.hid (cell_one_new w5 (.int .i64 y) 3)
            have HSZ := Lib.hid (Nat.le_trans hB s5)
            have HYQ := Lib.hid hyq
            have hb9 : nq + 1 ≤ 80000002 := by omega
            clear hc2 hy hyk hywf htk hrow hqc hcm hmany hnq hyq hm5 ht5 hB st5 s5 sa hrow5 hrowA hmA
            gi_wp2_with (gi_at_builtin; refine wpListIn_append_own _ rfl _ _ 36 rfl W.heap.size 3 i0 (.int .i64 0) 1 8 Try.underlying36 HI.out.1 HI.out.2.1 HI.out.2.2.1 HI.out.2.2.2 rfl (by decide) _ nq _ rfl HOW.out ⟨w5.heap.size, 0, none⟩ 1 1 [.int .i64 y] rfl rfl HNW.out (by simp [Value.oneCell']) (by unfold maxLen; omega) (by omega) (by rw [World.size_alloc]; have := HSZ.out; omega) ?_; intro v6 w6 hown6 hgrow6 _)
            have hlen : (q ++ [y]).length = nq + 1 := by rw [List.length_append, List.length_singleton, HS.out.1]
            obtain ⟨g6, c6, rfl, hr6⟩ := IntR.of (w := w6) (B := W.heap.size) (q := q ++ [y]) (v := v6) (by rw [hlen, List.map_append]; exact hown6) (by simp)
            have hgm : ¬ g = m := fun e => by
              obtain ⟨o, h1, h2⟩ := HRA.out.obj
              obtain ⟨o', h3, h4⟩ := HMA.out.obj
              rw [e] at h1
              rw [h3] at h1
              cases h1
              rw [Obj.not_cells_of_walk h4] at h2
              cases h2
            have st6 := HSA.out.trans (Stp.grown hgrow6 (by rw [World.size_alloc]; have := HSZ.out; omega) (fun k e => by cases e; exact ⟨HRA.out.1, HRA.out.obj⟩))
            have him6 := HMA.out.block (hgrow6.block m HMA.out.lt (fun e => hgm (by cases e; rfl)))
            have hxq : x ∈ q := by
              have := HS.out.1
              rw [HS.out.2.2.2.2, ni_eq (by omega)]
              exact List.getElem_mem _
            have hni : ∀ j, j ≤ i → ni (q ++ [y]) j = ni q j := fun j hj => by
              have := HS.out.1
              unfold ni
              rw [List.getD_eq_getElem?_getD, List.getD_eq_getElem?_getD, List.getElem?_append_left (by omega)]
            have hq2 : (q ++ [y]).take (i + 1) = q.take (i + 1) := List.take_append_of_le_length (by have := HS.out.1; omega)
            refine ⟨⟨j + 1, g6, c6, nq + 1, q ++ [y], by rw [hlen], by go_num, by omega, by omega, Lib.hid ⟨hlen.symm, ⟨?_, hr6, HS.out.2.1.kw.below st6.b, HS.out.2.1.hm, ?_, ?_, List.mem_append_left _ HS.out.2.1.z⟩, ?_, ?_, ?_⟩, Lib.hid ?_⟩, by simp [intOf]; omega⟩
            · rw [List.length_append, List.length_singleton]
              rw [show (fun u => if u ∈ q ++ [y] then 1 else 0) = (fun u => if u = y then 1 else if u ∈ q then 1 else 0) from by
                funext u
                by_cases e : u = y
                · subst e; simp
                · simp [e]]
              exact him6
            · refine List.nodup_append.2 ⟨HS.out.2.1.nd, by simp, ?_⟩
              intro u hu v hv e
              rw [List.mem_singleton.1 hv] at e
              exact HYQ.out (e ▸ hu)
            · intro u hu
              rcases List.mem_append.1 hu with hu | hu
              · exact HS.out.2.1.rc u hu
              · rw [List.mem_singleton.1 hu]
                exact .kid (HS.out.2.1.rc x hxq) HY9.out.1
            · intro j2 h2 u hu
              rw [hni j2 (by omega)] at hu
              exact List.mem_append_left _ (HS.out.2.2.1 j2 h2 u hu)
            · rw [HY9.out.2]
              intro u hu
              rcases List.mem_append.1 hu with hu | hu
              · exact List.mem_append_left _ (HS.out.2.2.2.1 u hu)
              · exact List.mem_append_right _ hu
            · rw [hni i (Nat.le_refl _)]
              exact HS.out.2.2.2.2
            · rw [hq2]
              exact HAB.out _ _ _ HJ.out st6
        · obtain rfl : j = kc := by omega
          have HS2 := Lib.hid (show nq = q.length ∧ RS ks W wx b m g c q ∧ (∀ j, j < i + 1 → ∀ x ∈ nk ks (ni q j), x ∈ q) from ⟨HS.out.1, HS.out.2.1, fun j2 h2 u hu => by
            by_cases e : j2 = i
            · rw [e, ← HS.out.2.2.2.2] at hu
              exact HS.out.2.2.2.1 u (by rw [HKC.out, List.take_length]; exact hu)
            · exact HS.out.2.2.1 j2 (by omega) u hu⟩)
          have hmany : nq ≤ (kids ks).length + 1 := by rw [HS.out.1]; exact HS.out.2.1.many
          gi_wp2
          go_roundw
          case rel => exact ⟨i + 1, g, c, nq, q, rfl, by go_num, by omega, HS2, HJ⟩
          case measure => simp [intOf]; omega
    · obtain rfl : i = nq := by omega
      have HE := Lib.hid (show AllR ks q ∧ J q wr from ⟨allR_of HS.out.2.1.nd HS.out.2.1.rc HS.out.2.1.z (fun j hj => HS.out.2.2 j (by omega)), by
        have h1 := HJ.out
        rw [hnq, List.take_length] at h1
        exact h1⟩)
      clear hlt hnq hmany
      gi_wp2
      go_end0
      exact ⟨⟨_, rfl⟩, q, HE.out.1, HE.out.2⟩
/-- A number that is one. -/
abbrev I64w := { x : Int // (Lit.int .i64 x).wf = true }
theorem reached_seq (n : Nat) (hn : 1 ≤ n) (cb bn bp nn N b : Nat) (ks : List Kn) (w0 w : World) (hT : TrAt w0 w cb bn bp nn N ks) (hw0 : Below w0.heap.size w0 w) (hb : b < w.heap.size) (hcb : cb ≠ b) (hbn : bn ≠ b) (hw0b : w0.heap.size ≤ b) (hwf : ∀ x ∈ kids ks, (Lit.int .i64 x).wf = true) (h80 : ∀ c, (nk ks c).length ≤ 80) (hkl : (kids ks).length ≤ 80000000) :
    SeqC Fence.wide n Try.prog 73 #[.pointer (some ⟨cb, 0, none⟩)] (fun x : I64w => #[.int .i64 x.1]) (Kept b) (fun xs => AllR ks (xs.map (·.1))) ((kids ks).length + 1) w := fun l J W hW hab hY h0 => by
  refine (reached_in n hn l cb bn bp nn N b ks w0 W (fun pre A => ∃ p : List I64w, p.map (·.1) = pre ∧ J p A) ?_ ?_ (hT.keep hW) (hw0.trans (hW.mono hw0.size)) (by have := hW.size; omega) hcb hbn hw0b hwf h80 hkl ⟨[], rfl, h0⟩).mono ?_
  · rintro s A C ⟨p, h1, h2⟩ hs
    exact ⟨p, h1, hab _ _ _ h2 hs⟩
  · rintro pre x A hx ⟨p, h1, h2⟩ hlen
    refine YieldAt.mono (hY p ⟨x, hx⟩ A h2 (by rw [← h1, List.length_map] at hlen; exact hlen)) ?_
    rintro e C ⟨h3, h4, h5⟩
    exact ⟨h3, ⟨p ++ [⟨x, hx⟩], by rw [List.map_append, h1]; rfl, h4⟩, h5⟩
  · rintro e C ⟨h1, xs, h2, p, h3, h4⟩
    exact ⟨h1, p, by show AllR ks _; rw [h3]; exact h2, h4⟩
end Go.Proofs.Ytgaacoeggikbpaa
