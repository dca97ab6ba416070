/- whole.isLeaf: is a node a sound leaf? Conditions: sizes that fit. slices.Equal at pairs: whether two rows are the same. Nothing that was there has turned. whole.Agree: does a tree agree with a row of pairs? Conditions: sizes that fit. Nodes of cells that came in: is each small, and are there few? No condition. The law WholeAgrees, walked. Conditions: the nodes' rows are there; their numbers are numbers. -/
import Derived.Test.YtgaacoeggikbpaaPq8
import Derived.Deep.DeepCutAuto
import Derived.Test.YtgaacoeggikbpaaPq9
import Derived.Test.YtgaacoeggikbpaaNodeEq
import Derived.Test.YtgaacoeggikbpaaPqb
import Derived.Test.YtgaacoeggikbpaaPq2
import Derived.Test.YtgaacoeggikbpaaNodeKids
import Derived.Test.YtgaacoeggikbpaaPqc
import Derived.Deep.RegionHeldLaw
namespace Go.Proofs.Ytgaacoeggikbpaa
open Go.RowKit

set_option maxHeartbeats 2000000 in
set_option maxRecDepth 100000 in
theorem isLeaf15_any (n : Nod) (v : Value) (w : World) (hv : NdV w v n) (hf : FitN n) :
    Calls Try.prog 19 #[v] w fun e w' => e = .returned (.bool (decide (n.lv = 0) && soundB 64 n)) ∧ Below w.heap.size w w' := by
  obtain ⟨ak, av, ac, ck, cv, cc, rfl, hnd⟩ := nod_open hv
  have hx := boxed_below w (.cells #[.int .i64 n.lv, .string n.lo, .string n.hi, .bool n.la, .int .i64 n.nx, .slice ak n.ks.length ck, .slice av n.vs.length cv, .slice ac n.cs.length cc] 38)
  have n1 := BX.new w 38 #[.int .i64 n.lv, .string n.lo, .string n.hi, .bool n.la, .int .i64 n.nx, .slice ak n.ks.length ck, .slice av n.vs.length cv, .slice ac n.cs.length cc]
  obtain ⟨G, hG⟩ : ∃ g, g = w.heap.size := ⟨_, rfl⟩
  rw [← hG] at n1
  obtain ⟨W1, hW1⟩ : ∃ W, W = w.alloc (.cells #[.int .i64 n.lv, .string n.lo, .string n.hi, .bool n.la, .int .i64 n.nx, .slice ak n.ks.length ck, .slice av n.vs.length cv, .slice ac n.cs.length cc] 38) := ⟨_, rfl⟩
  rw [← hW1] at hx n1
  have HIS := Lib.hid (isSound_any n (.agg #[.int .i64 n.lv, .string n.lo, .string n.hi, .bool n.la, .int .i64 n.nx, .slice ak n.ks.length ck, .slice av n.vs.length cv, .slice ac n.cs.length cc]) W1 ⟨ak, av, ac, ck, cv, cc, rfl, hnd.keep hx⟩ hf)
  obtain ⟨sb, hsb⟩ : ∃ sb, sb = soundB 64 n := ⟨_, rfl⟩
  rw [← hsb] at HIS ⊢
  have k0 := n1.cell 0 rfl
  have k1 := n1.cell 1 rfl
  have k2 := n1.cell 2 rfl
  have k3 := n1.cell 3 rfl
  have k4 := n1.cell 4 rfl
  have k5 := n1.cell 5 rfl
  have k6 := n1.cell 6 rfl
  have k7 := n1.cell 7 rfl
  have HW := Lib.hid (show G = w.heap.size ∧ _ from ⟨hG, hW1⟩)
  have HX := Lib.hid hx
  clear hx n1 hG hW1 hv hnd hf hsb
  by_cases h0 : n.lv = 0
  · rw [decide_eq_true h0, Bool.true_and]
    have h0' : (n.lv == 0) = true := beq_iff_eq.2 h0
    clear h0
    go_enter Try.func19, Try.ntmps19
    go_upto_region 1 with fail
    rw [← HW.out.1, ← HW.out.2]
    clear HW
    go_wp2_with fail
    refine HIS.out.mono ?_
    rintro e w4 ⟨rfl, hb4⟩
    have HB4 := Lib.hid (HX.out.trans (hb4.mono HX.out.size))
    clear hb4
    go_wp2
    go_ret
    exact ⟨rfl, HB4.out⟩
  · rw [decide_eq_false h0, Bool.false_and]
    have h0' : (n.lv == 0) = false := beq_eq_false_iff_ne.2 h0
    clear h0 HIS
    go_enter Try.func19, Try.ntmps19
    go_upto_region 1 with fail
    rw [← HW.out.1, ← HW.out.2]
    clear HW
    go_wp2
    go_ret
    exact ⟨rfl, HX.out⟩
end Go.Proofs.Ytgaacoeggikbpaa

namespace Go.Proofs.Ytgaacoeggikbpaa
open Go.RowKit

theorem pairs_ne {ps qs : List (ByteArray × Int)} (i : Nat) (h : ntp ps i ≠ ntp qs i) : ps ≠ qs := fun e => h (by rw [e])
theorem pairs_eq {ps qs : List (ByteArray × Int)} (hl : ps.length = qs.length) (h : ∀ i, i < ps.length → ntp ps i = ntp qs i) : ps = qs := by
  apply List.ext_getElem hl
  intro i h1 h2
  have := h i h1
  rwa [ntp_eq h1, ntp_eq h2] at this
set_option maxHeartbeats 2000000 in
set_option maxRecDepth 100000 in
theorem equalPair_any (a1 a2 : Option Addr) (n1 c1 n2 c2 : Nat) (ps qs : List (ByteArray × Int)) (b : Bool) (w : World) (h1 : RdP w (.slice a1 n1 c1) ps) (h2 : RdP w (.slice a2 n2 c2) qs) (hb : b = true ↔ ps = qs) :
    Calls Try.prog 20 #[.slice a1 n1 c1, .slice a2 n2 c2] w fun e w' => e = .returned (.bool b) ∧ Drew w w' := by
  have H1 := Lib.hid h1
  have H2 := Lib.hid h2
  have l1 := h1.len
  have l2 := h2.len
  have m1 := l1.2.1
  have m2 := l1.2.2
  have m3 := l2.2.1
  have m4 := l2.2.2
  have HL := Lib.hid (And.intro l1.1 l2.1)
  have HBB := Lib.hid hb
  clear h1 h2 hb l1 l2
  by_cases hn : n1 = n2
  · subst hn
    have g1 : ((n1 : Int) != (n1 : Int)) = false := by simp
    go_enter Try.func20, Try.ntmps20
    go_wp2
    go_loopw [13] (fun s wr => ∃ i : Nat, s = .int .i64 i ∧ i ≤ n1 ∧ Drew w wr ∧ Hid (∀ j, j < i → ntp ps j = ntp qs j)) (fun s _ => n1 - (intOf s).toNat)
    case atStart => exact ⟨0, rfl, Nat.zero_le _, Drew.refl w, Lib.hid (fun j hj => absurd hj (Nat.not_lt_zero _))⟩
    case round =>
      obtain ⟨i, rfl, hi, hd, hall⟩ := hrel
      by_cases hlt : i < n1
      · obtain ⟨p1, o1, e1, hc1⟩ := (H1.out.keep (hd.below _)).at_ i hlt
        obtain ⟨p2, o2, e2, hc2⟩ := (H2.out.keep (hd.below _)).at_ i hlt
        obtain ⟨k1, k1'⟩ := hc1 i hlt
        obtain ⟨k2, k2'⟩ := hc2 i hlt
        clear hc1 hc2
        subst e1 e2
        have hlt' : (i : Int) < n1 := by omega
        obtain ⟨p, hp⟩ : ∃ p, p = ntp ps i := ⟨_, rfl⟩
        obtain ⟨q, hq⟩ : ∃ q, q = ntp qs i := ⟨_, rfl⟩
        rw [← hp] at k1 k1'
        rw [← hq] at k2 k2'
        have HPQ := Lib.hid (And.intro hp hq)
        clear hp hq
        obtain ⟨x, u⟩ := p
        obtain ⟨y, v⟩ := q
        by_cases he : x = y
        · by_cases hv : u = v
          · have HN : Hid (∀ j, j < i + 1 → ntp ps j = ntp qs j) := Lib.hid (fun j hj => by
              by_cases e : j = i
              · rw [e, ← HPQ.out.1, ← HPQ.out.2, he, hv]
              · exact hall.out j (by omega))
            subst hv
            subst he
            go_wp2
            go_quiet (fail)
            go_wp2
            go_roundw
            case rel => exact ⟨i + 1, by go_num, by omega, hd.trans ⟨_, rfl⟩, HN⟩
            case measure => simp [intOf]; omega
          · have HN : Hid (b = false) := Lib.hid (bool_no HBB.out (pairs_ne i (by rw [← HPQ.out.1, ← HPQ.out.2]; intro e; injection e with _ e; exact hv e)))
            have z1 : (u == v) = false := beq_eq_false_iff_ne.2 hv
            have z2 : (u != v) = true := bne_iff_ne.2 hv
            subst he
            clear hv
            go_wp2
            go_quiet (fail)
            go_wp2
            go_ret
            exact ⟨ret_b HN.out.symm, hd.trans ⟨_, rfl⟩⟩
        · have HN : Hid (b = false) := Lib.hid (bool_no HBB.out (pairs_ne i (by rw [← HPQ.out.1, ← HPQ.out.2]; intro e; injection e with e _; exact he e)))
          have z1 := (txt_not he).1
          have z2 := (txt_not he).2
          clear he
          go_wp2
          go_quiet (fail)
          go_wp2
          go_ret
          exact ⟨ret_b HN.out.symm, hd.trans ⟨_, rfl⟩⟩
      · obtain rfl : i = n1 := by omega
        have HN : Hid (b = true) := Lib.hid (HBB.out.2 (pairs_eq (HL.out.1.trans HL.out.2.symm) (fun j hj => hall.out j (by have := HL.out.1; omega))))
        go_wp2
        go_ret
        exact ⟨ret_b HN.out.symm, hd⟩
  · have g1 : ((n1 : Int) != (n2 : Int)) = true := by simp; omega
    have HN : Hid (b = false) := Lib.hid (bool_no HBB.out (fun e => hn (by rw [← HL.out.1, ← HL.out.2, e])))
    clear hn
    go_enter Try.func20, Try.ntmps20
    go_wp2
    go_ret
    exact ⟨ret_b HN.out.symm, Drew.refl w⟩
end Go.Proofs.Ytgaacoeggikbpaa

namespace Go.Proofs.Ytgaacoeggikbpaa
open Go.RowKit

set_option maxHeartbeats 8000000 in
set_option maxRecDepth 100000 in
theorem agree_any (w0 : World) (ao : Option Addr) (n c : Nat) (ks : List Kn) (mo : Option Addr) (mn mc : Nat) (ps : List (ByteArray × Int)) (w : World) (hb0 : Below w0.heap.size w0 w) (h : KsAt (PV w0) w (.slice ao n c) ks) (hn : n ≤ 1000000) (hfit : ∀ j, j < n → FitN (kAt ks j).n) (hp : RdP w (.slice mo mn mc) ps) (hz : ∀ p ∈ ps, p.1.size ≤ 140737488355328) (hmn : mn ≤ 274877906943) :
    Calls Try.prog 8 #[.slice ao n c, .slice mo mn mc] w fun e w' => EveryGives w w' e (AgP ks ps) := by
  have HR := Lib.hid (rises_any mo mn mc ps w hp hz hmn)
  have HK := Lib.hid h
  have HP := Lib.hid hp
  have HZ := Lib.hid (And.intro hz hmn)
  have HFT := Lib.hid hfit
  have H0 := Lib.hid hb0
  have hl := h.len
  have HL := Lib.hid hl.1
  have hl2 := hl.2
  clear h hp hz hfit hb0 hl hmn
  go_enter Try.func8, Try.ntmps8
  go_wp2_with fail
  refine HR.out.mono ?_
  rintro e w1 ⟨r, rfl, hr, hb1⟩
  have HRR := Lib.hid hr
  have HB1 := Lib.hid hb1
  clear hr hb1
  cases r with
  | false =>
    go_wp2
    go_ret
    exact ⟨false, rfl, ⟨(fun h => by cases h), (fun h => by have := HRR.out.2 h.1; cases this)⟩, HB1.out⟩
  | true =>
  have HRIS := Lib.hid (HRR.out.1 (by first | rfl | trivial))
  clear HRR HR
  go_wp2
  go_loopw [12] (fun s wr => ∃ i : Nat, s = .int .i64 i ∧ i ≤ n ∧ Hid (Below w.heap.size w wr ∧ ∀ j, j < i → (decide ((kAt ks j).n.lv = 0) && soundB 64 (kAt ks j).n) = true → prs (kAt ks j).n.ks (kAt ks j).n.vs = ps.filter (fun p => insideB (kAt ks j).n.lo.data.toList (kAt ks j).n.hi.data.toList (kAt ks j).n.la p.1.data.toList))) (fun s _ => n - (intOf s).toNat)
  case atStart => exact ⟨0, rfl, Nat.zero_le _, Lib.hid ⟨HB1.out, fun j hj => absurd hj (Nat.not_lt_zero _)⟩⟩
  case round =>
    obtain ⟨i, rfl, hi, HV⟩ := hrel
    by_cases hlt : i < n
    · obtain ⟨g, o, ak, nk, ck, av, nv, cv, ac, nc, cc, rfl, hP, hc⟩ := (HK.out.keep HV.out.1).get hlt
      have hil : i < ks.length := by have := HL.out; omega
      have hft := HFT.out i hlt
      obtain ⟨kn, hkn⟩ : ∃ kn, kn = kAt ks i := ⟨_, rfl⟩
      rw [← hkn] at hc hP hft
      obtain ⟨rfl, rfl, rfl, hnd⟩ := PV.ndF hP
      obtain ⟨q0, q1, q2, q3, q4, q5, q6, q7, q8, q9, q10⟩ := hc _ (Below.refl _ _)
      have hlt' : (i : Int) < n := by omega
      have hx := boxed_below wr (.cells #[.int .i64 kn.c, .int .u64 kn.wd, .int .u64 kn.vr, .int .i64 kn.n.lv, .string kn.n.lo, .string kn.n.hi, .bool kn.n.la, .int .i64 kn.n.nx, .slice ak kn.n.ks.length ck, .slice av kn.n.vs.length cv, .slice ac kn.n.cs.length cc] 40)
      have n2 := BX.new wr 40 #[.int .i64 kn.c, .int .u64 kn.wd, .int .u64 kn.vr, .int .i64 kn.n.lv, .string kn.n.lo, .string kn.n.hi, .bool kn.n.la, .int .i64 kn.n.nx, .slice ak kn.n.ks.length ck, .slice av kn.n.vs.length cv, .slice ac kn.n.cs.length cc]
      obtain ⟨G, hG⟩ : ∃ g, g = wr.heap.size := ⟨_, rfl⟩
      rw [← hG] at n2
      obtain ⟨W2, hW2⟩ : ∃ W, W = wr.alloc (.cells #[.int .i64 kn.c, .int .u64 kn.wd, .int .u64 kn.vr, .int .i64 kn.n.lv, .string kn.n.lo, .string kn.n.hi, .bool kn.n.la, .int .i64 kn.n.nx, .slice ak kn.n.ks.length ck, .slice av kn.n.vs.length cv, .slice ac kn.n.cs.length cc] 40) := ⟨_, rfl⟩
      rw [← hW2] at hx n2
      have hb2 : Below w.heap.size w W2 := HV.out.1.trans (hx.mono HV.out.1.size)
      have hnd2 := hnd.keep (H0.out.trans (hb2.mono H0.out.size))
      have HB2 := Lib.hid hb2
      have HKN := Lib.hid (And.intro hkn hil)
      have HFI := Lib.hid hft
      have HN2 := Lib.hid n2
      have HC : Hid (∀ V, Below W2.heap.size W2 V → V.cell? ⟨G, 3, none⟩ = some (.int .i64 kn.n.lv) ∧ V.cell? ⟨G, 4, none⟩ = some (.string kn.n.lo) ∧ V.cell? ⟨G, 5, none⟩ = some (.string kn.n.hi) ∧ V.cell? ⟨G, 6, none⟩ = some (.bool kn.n.la) ∧ V.cell? ⟨G, 7, none⟩ = some (.int .i64 kn.n.nx) ∧ V.cell? ⟨G, 8, none⟩ = some (.slice ak kn.n.ks.length ck) ∧ V.cell? ⟨G, 9, none⟩ = some (.slice av kn.n.vs.length cv) ∧ V.cell? ⟨G, 10, none⟩ = some (.slice ac kn.n.cs.length cc)) := Lib.hid (fun V hV => ⟨(n2.below hV).cell 3 rfl, (n2.below hV).cell 4 rfl, (n2.below hV).cell 5 rfl, (n2.below hV).cell 6 rfl, (n2.below hV).cell 7 rfl, (n2.below hV).cell 8 rfl, (n2.below hV).cell 9 rfl, (n2.below hV).cell 10 rfl⟩)
      have hS2 := HC.out W2.drew (Below.refl _ _).drew
      have HIL := Lib.hid (fun W (hb : Below W2.heap.size W2 W) => isLeaf15_any kn.n (.agg #[.int .i64 kn.n.lv, .string kn.n.lo, .string kn.n.hi, .bool kn.n.la, .int .i64 kn.n.nx, .slice ak kn.n.ks.length ck, .slice av kn.n.vs.length cv, .slice ac kn.n.cs.length cc]) W ⟨ak, av, ac, ck, cv, cc, rfl, hnd2.keep hb⟩ hft)
      have HPR := Lib.hid (fun W (hb : Below W2.heap.size W2 W) => lpairs_any kn.n.lv kn.n.nx kn.n.lo kn.n.hi kn.n.la ak av ac ck cv cc kn.n.ks kn.n.vs kn.n.cs W (hnd2.keep hb) (by have := hft.ks; omega) (fun x hx => hft.fit.ks x hx))
      have HWI := Lib.hid (fun W (hb : Below W2.heap.size W2 W) => within_any kn.n.lv kn.n.nx kn.n.lo kn.n.hi kn.n.la ak av ac kn.n.ks.length ck kn.n.vs.length cv kn.n.cs.length cc mo mn mc ps W ((HP.out.keep hb2).keep hb) HRIS.out HZ.out.1 HZ.out.2 hft.fit.lo hft.fit.hi)
      have HW2 := Lib.hid (show G = wr.heap.size ∧ _ from ⟨hG, hW2⟩)
      obtain ⟨bq, hbq⟩ : ∃ b : Bool, b = @decide (prs kn.n.ks kn.n.vs = ps.filter (fun p => insideB kn.n.lo.data.toList kn.n.hi.data.toList kn.n.la p.1.data.toList)) (Classical.propDecidable _) := ⟨_, rfl⟩
      have HBQ : Hid (bq = true ↔ prs kn.n.ks kn.n.vs = ps.filter (fun p => insideB kn.n.lo.data.toList kn.n.hi.data.toList kn.n.la p.1.data.toList)) := Lib.hid (by rw [hbq]; exact @decide_eq_true_iff _ (Classical.propDecidable _))
      obtain ⟨bl, hbl⟩ : ∃ b, b = (decide (kn.n.lv = 0) && soundB 64 kn.n) := ⟨_, rfl⟩
      rw [← hbl] at HIL
      have HBL := Lib.hid hbl
      clear hx n2 hG hW2 hb2 hnd hnd2 hP hc hkn hil hft hbq hbl
      go_upto_region 6 with fail
      rw [← HW2.out.1, ← HW2.out.2]
      clear HW2 q0 q1 q2 q3 q4 q5 q6 q7 q8 q9 q10
      cases bl with
      | false =>
        have HQ : ∀ p : Later W2, p.w.cell? ⟨G, 3, none⟩ = some (.int .i64 kn.n.lv) ∧ p.w.cell? ⟨G, 4, none⟩ = some (.string kn.n.lo) ∧ p.w.cell? ⟨G, 5, none⟩ = some (.string kn.n.hi) ∧ p.w.cell? ⟨G, 6, none⟩ = some (.bool kn.n.la) ∧ p.w.cell? ⟨G, 7, none⟩ = some (.int .i64 kn.n.nx) ∧ p.w.cell? ⟨G, 8, none⟩ = some (.slice ak kn.n.ks.length ck) ∧ p.w.cell? ⟨G, 9, none⟩ = some (.slice av kn.n.vs.length cv) ∧ p.w.cell? ⟨G, 10, none⟩ = some (.slice ac kn.n.cs.length cc) := fun p => HC.out p.w p.h
        have a0 : ∀ p : Later W2, p.w.cell? ⟨G, 3, none⟩ = some (.int .i64 kn.n.lv) := fun p => (HQ p).1
        have a1 : ∀ p : Later W2, p.w.cell? ⟨G, 4, none⟩ = some (.string kn.n.lo) := fun p => (HQ p).2.1
        have a2 : ∀ p : Later W2, p.w.cell? ⟨G, 5, none⟩ = some (.string kn.n.hi) := fun p => (HQ p).2.2.1
        have a3 : ∀ p : Later W2, p.w.cell? ⟨G, 6, none⟩ = some (.bool kn.n.la) := fun p => (HQ p).2.2.2.1
        have a4 : ∀ p : Later W2, p.w.cell? ⟨G, 7, none⟩ = some (.int .i64 kn.n.nx) := fun p => (HQ p).2.2.2.2.1
        have a5 : ∀ p : Later W2, p.w.cell? ⟨G, 8, none⟩ = some (.slice ak kn.n.ks.length ck) := fun p => (HQ p).2.2.2.2.2.1
        have a6 : ∀ p : Later W2, p.w.cell? ⟨G, 9, none⟩ = some (.slice av kn.n.vs.length cv) := fun p => (HQ p).2.2.2.2.2.2.1
        have a7 : ∀ p : Later W2, p.w.cell? ⟨G, 10, none⟩ = some (.slice ac kn.n.cs.length cc) := fun p => (HQ p).2.2.2.2.2.2.2
        have HIL2 := Lib.hid (fun p : Later W2 => later_of (p := p) (HIL.out p.w p.h))
        clear hS2 HPR HWI HBQ HQ HIL
        refine wp_region_later (by kernel_rfl) (by kernel_rfl) ?_
        quiet_step (fail)
        quiet_step (fail)
        quiet_step ((go_at_call 19; (with_reducible exact HIL2.out _)))
        repeat (go_big_quiet_step (fail))
        refine wpQuiet_nil ?_
        intro wa hw'
        obtain ⟨⟨wz, hwq⟩, hw''⟩ := hw'
        have ewz : wa = wz := hw''
        subst ewz
        have HD1 := Lib.hid hwq
        have HLT := Lib.hid hlt
        have hw1 : IntKind.i64.wrap ((i : Int) + 1) = (i : Int) + 1 := by rw [IntKind.wrap_i64]; omega
        have HEND := Lib.hid (show Below w.heap.size w wa ∧ _ from ⟨HB2.out.trans (HD1.out.mono HB2.out.size), fun (j : Nat) (hj : j < i + 1) (hs : (decide ((kAt ks j).n.lv = 0) && soundB 64 (kAt ks j).n) = true) => show prs (kAt ks j).n.ks (kAt ks j).n.vs = ps.filter (fun p => insideB (kAt ks j).n.lo.data.toList (kAt ks j).n.hi.data.toList (kAt ks j).n.la p.1.data.toList) by
          by_cases e : j = i
          · rw [e, ← HKN.out.1, ← HBL.out] at hs
            cases hs
          · exact HV.out.2 j (by omega) hs⟩)
        go_wp2
        go_roundw
        case rel => exact ⟨i + 1, by go_num, by have := HLT.out; omega, HEND⟩
        case measure => have := HLT.out; simp [intOf]; omega
      | true =>
        obtain ⟨pa, hpa⟩ : ∃ z, z = prs kn.n.ks kn.n.vs := ⟨_, rfl⟩
        obtain ⟨fa, hfa⟩ : ∃ z, z = ps.filter (fun p => insideB kn.n.lo.data.toList kn.n.hi.data.toList kn.n.la p.1.data.toList) := ⟨_, rfl⟩
        rw [← hpa] at HPR HBQ
        rw [← hfa] at HWI HBQ
        have HPF := Lib.hid (And.intro hpa hfa)
        clear hpa hfa
        have HEQ := Lib.hid (fun (uo vo : Option Addr) (uc vc : Nat) (W : World) (h1 : RdP W (.slice uo pa.length uc) pa) (h2 : RdP W (.slice vo fa.length vc) fa) => equalPair_any uo vo pa.length uc fa.length vc pa fa bq W h1 h2 HBQ.out)
        cases bq with
        | true =>
          have HPE := Lib.hid (HBQ.out.1 rfl)
          clear HBQ
          go_region_held_law (fun V => V.cell? ⟨G, 3, none⟩ = some (.int .i64 kn.n.lv) ∧ V.cell? ⟨G, 4, none⟩ = some (.string kn.n.lo) ∧ V.cell? ⟨G, 5, none⟩ = some (.string kn.n.hi) ∧ V.cell? ⟨G, 6, none⟩ = some (.bool kn.n.la) ∧ V.cell? ⟨G, 7, none⟩ = some (.int .i64 kn.n.nx) ∧ V.cell? ⟨G, 8, none⟩ = some (.slice ak kn.n.ks.length ck) ∧ V.cell? ⟨G, 9, none⟩ = some (.slice av kn.n.vs.length cv) ∧ V.cell? ⟨G, 10, none⟩ = some (.slice ac kn.n.cs.length cc))
            (first | (with_reducible exact hS2) | (refine HC.out _ ?_; first | (with_reducible exact HD4.out) | (with_reducible exact HD3.out) | (with_reducible exact HD2.out) | (with_reducible exact HD1.out) | exact HD1.out.drew | exact (Below.refl _ _).drew | exact Below.refl _ _))
            (first
              | (go_at_call 19; refine (HIL.out _ (by first | exact (Below.refl _ _).drew | exact Below.refl _ _)).mono ?_; rintro e wa ⟨rfl, hba⟩; have HD1 : Hid (Below W2.heap.size W2 wa) := Lib.hid (Below.trans (by first | exact (Below.refl _ _).drew | exact Below.refl _ _) hba); clear hba)
              | (go_at_call 17; refine (HPR.out _ (by with_reducible exact HD1.out)).mono ?_; rintro e wb ⟨u, rfl, hu, hbb⟩; have HD2 := Lib.hid (HD1.out.trans (hbb.mono HD1.out.size)); obtain ⟨uo, uc, rfl⟩ := hu.rd.open; have HU := Lib.hid hu.rd; clear hu hbb)
              | (go_at_call 21; refine (HWI.out _ (by with_reducible exact HD2.out)).mono ?_; rintro e wc ⟨⟨u2, rfl, hu2⟩, hbc⟩; have HD3 := Lib.hid (HD2.out.trans (hbc.mono HD2.out.size)); obtain ⟨vo, vc, rfl⟩ := hu2.open; have HU2 := Lib.hid hu2; have HU1 := Lib.hid (HU.out.keep hbc); clear hu2 hbc)
              | (go_at_call 20; refine (HEQ.out uo vo uc vc _ HU1.out HU2.out).mono ?_; rintro e wd ⟨rfl, hdd⟩; have HD4 := Lib.hid (HD3.out.trans ((hdd.below0 _).mono HD3.out.size)); clear hdd))
          have HEND := Lib.hid (show Below w.heap.size w wd ∧ _ from ⟨HB2.out.trans (HD4.out.mono HB2.out.size), fun (j : Nat) (hj : j < i + 1) (hs : (decide ((kAt ks j).n.lv = 0) && soundB 64 (kAt ks j).n) = true) => show prs (kAt ks j).n.ks (kAt ks j).n.vs = ps.filter (fun p => insideB (kAt ks j).n.lo.data.toList (kAt ks j).n.hi.data.toList (kAt ks j).n.la p.1.data.toList) by
            by_cases e : j = i
            · rw [e, ← HKN.out.1, ← HPF.out.1, ← HPF.out.2]
              exact HPE.out
            · exact HV.out.2 j (by omega) hs⟩)
          go_wp2
          go_roundw
          case rel => exact ⟨i + 1, by go_num, by omega, HEND⟩
          case measure => simp [intOf]; omega
        | false =>
          have HPE : Hid (¬ pa = fa) := Lib.hid (fun h => by have := HBQ.out.2 h; cases this)
          clear HBQ
          go_region_held_law (fun V => V.cell? ⟨G, 3, none⟩ = some (.int .i64 kn.n.lv) ∧ V.cell? ⟨G, 4, none⟩ = some (.string kn.n.lo) ∧ V.cell? ⟨G, 5, none⟩ = some (.string kn.n.hi) ∧ V.cell? ⟨G, 6, none⟩ = some (.bool kn.n.la) ∧ V.cell? ⟨G, 7, none⟩ = some (.int .i64 kn.n.nx) ∧ V.cell? ⟨G, 8, none⟩ = some (.slice ak kn.n.ks.length ck) ∧ V.cell? ⟨G, 9, none⟩ = some (.slice av kn.n.vs.length cv) ∧ V.cell? ⟨G, 10, none⟩ = some (.slice ac kn.n.cs.length cc))
            (first | (with_reducible exact hS2) | (refine HC.out _ ?_; first | (with_reducible exact HD4.out) | (with_reducible exact HD3.out) | (with_reducible exact HD2.out) | (with_reducible exact HD1.out) | exact HD1.out.drew | exact (Below.refl _ _).drew | exact Below.refl _ _))
            (first
              | (go_at_call 19; refine (HIL.out _ (by first | exact (Below.refl _ _).drew | exact Below.refl _ _)).mono ?_; rintro e wa ⟨rfl, hba⟩; have HD1 : Hid (Below W2.heap.size W2 wa) := Lib.hid (Below.trans (by first | exact (Below.refl _ _).drew | exact Below.refl _ _) hba); clear hba)
              | (go_at_call 17; refine (HPR.out _ (by with_reducible exact HD1.out)).mono ?_; rintro e wb ⟨u, rfl, hu, hbb⟩; have HD2 := Lib.hid (HD1.out.trans (hbb.mono HD1.out.size)); obtain ⟨uo, uc, rfl⟩ := hu.rd.open; have HU := Lib.hid hu.rd; clear hu hbb)
              | (go_at_call 21; refine (HWI.out _ (by with_reducible exact HD2.out)).mono ?_; rintro e wc ⟨⟨u2, rfl, hu2⟩, hbc⟩; have HD3 := Lib.hid (HD2.out.trans (hbc.mono HD2.out.size)); obtain ⟨vo, vc, rfl⟩ := hu2.open; have HU2 := Lib.hid hu2; have HU1 := Lib.hid (HU.out.keep hbc); clear hu2 hbc)
              | (go_at_call 20; refine (HEQ.out uo vo uc vc _ HU1.out HU2.out).mono ?_; rintro e wd ⟨rfl, hdd⟩; have HD4 := Lib.hid (HD3.out.trans ((hdd.below0 _).mono HD3.out.size)); clear hdd))
          have HEND := Lib.hid (HB2.out.trans (HD4.out.mono HB2.out.size))
          have HNO := Lib.hid (show ¬ AgP ks ps from fun h => by
            have h1 := h.2 i HKN.out.2 (by rw [← HKN.out.1, ← HBL.out])
            rw [← HKN.out.1, ← HPF.out.1, ← HPF.out.2] at h1
            exact HPE.out h1)
          go_wp2
          go_ret
          exact ⟨false, rfl, ⟨(fun h => by cases h), (fun h => absurd h HNO.out)⟩, HEND.out⟩
    · obtain rfl : i = n := by omega
      go_wp2
      go_ret
      exact ⟨true, rfl, ⟨fun _ => ⟨HRIS.out, fun j hj hs => HV.out.2 j (by have := HL.out; omega) hs⟩, fun _ => rfl⟩, HV.out.1⟩
end Go.Proofs.Ytgaacoeggikbpaa

namespace Go.Proofs.Ytgaacoeggikbpaa
open Go.RowKit Go.Maps

theorem kAt_mem {ks : List Kn} {i : Nat} (h : i < ks.length) : kAt ks i ∈ ks := by rw [kAt_eq h]; exact List.getElem_mem h
/-- Is each small, and are there few? -/
def LightK (ks : List Kn) : Prop := (∀ kn ∈ ks, LightP kn.n.lo kn.n.hi kn.n.ks.length kn.n.vs.length kn.n.cs.length kn.n.ks) ∧ ks.length ≤ 40
set_option maxHeartbeats 4000000 in
set_option maxRecDepth 100000 in
theorem light15_any (w0 : World) (ao : Option Addr) (n c : Nat) (ks : List Kn) (w : World) (h0 : Below w0.heap.size w0 w) (h : KsAt (PV w0) w (.slice ao n c) ks) :
    Calls Try.prog 4 #[.slice ao n c] w fun e w' => EveryGives w w' e (LightK ks) := by
  have hl := h.len
  have HL := Lib.hid hl.1
  have HK := Lib.hid h
  have H0 := Lib.hid h0
  have hl2 := hl.2
  clear h h0 hl
  go_enter Try.func4, Try.ntmps4
  go_wp2
  go_loopw [7] (fun s wr => ∃ (i : Nat), s = .int .i64 i ∧ i ≤ n ∧ Hid (Below w.heap.size w wr ∧ ∀ j, j < i → LightP (kAt ks j).n.lo (kAt ks j).n.hi (kAt ks j).n.ks.length (kAt ks j).n.vs.length (kAt ks j).n.cs.length (kAt ks j).n.ks)) (fun s _ => n - (intOf s).toNat)
  case atStart => exact ⟨0, rfl, Nat.zero_le _, Lib.hid ⟨Below.refl _ _, fun j hj => absurd hj (Nat.not_lt_zero _)⟩⟩
  case round =>
    obtain ⟨i, rfl, hi, HV⟩ := hrel
    by_cases hlt : i < n
    · obtain ⟨g, o, ak, nk, ck, av, nv, cv, ac, nc, cc, rfl, hP, hc⟩ := HK.out.get hlt
      have hil : i < ks.length := by have := HL.out; omega
      obtain ⟨kn, hkn⟩ : ∃ kn, kn = kAt ks i := ⟨_, rfl⟩
      rw [← hkn] at hc hP
      obtain ⟨rfl, rfl, rfl, hnd⟩ := PV.ndF hP
      obtain ⟨q0, q1, q2, q3, q4, q5, q6, q7, q8, q9, q10⟩ := hc _ HV.out.1
      have hlt' : (i : Int) < n := by omega
      have hx := boxed_below wr (.cells #[.int .i64 kn.c, .int .u64 kn.wd, .int .u64 kn.vr, .int .i64 kn.n.lv, .string kn.n.lo, .string kn.n.hi, .bool kn.n.la, .int .i64 kn.n.nx, .slice ak kn.n.ks.length ck, .slice av kn.n.vs.length cv, .slice ac kn.n.cs.length cc] 40)
      obtain ⟨W2, hW2⟩ : ∃ W, W = wr.alloc (.cells #[.int .i64 kn.c, .int .u64 kn.wd, .int .u64 kn.vr, .int .i64 kn.n.lv, .string kn.n.lo, .string kn.n.hi, .bool kn.n.la, .int .i64 kn.n.nx, .slice ak kn.n.ks.length ck, .slice av kn.n.vs.length cv, .slice ac kn.n.cs.length cc] 40) := ⟨_, rfl⟩
      rw [← hW2] at hx
      have hb2 := HV.out.1.trans (hx.mono HV.out.1.size)
      have hnd2 := hnd.keep (H0.out.trans (hb2.mono H0.out.size))
      have HQ := Lib.hid (nlight_any kn.n.lv kn.n.nx kn.n.lo kn.n.hi kn.n.la ak av ac kn.n.ks.length ck kn.n.vs.length cv kn.n.cs.length cc kn.n.ks W2 hnd2.k (by have := (rd_len hnd2.v).2; omega) (by have := (rd_len hnd2.c).2; omega))
      have HW2 := Lib.hid hW2
      have HBB := Lib.hid hb2
      have HKN := Lib.hid hkn
      have HIL := Lib.hid hil
      clear hx hW2 hb2 hnd hnd2 hP hc hkn hil
      go_wp2_with fail
      rw [← HW2.out]
      refine HQ.out.mono ?_
      rintro e w5 ⟨r, rfl, hr, hb5⟩
      have HR := Lib.hid hr
      have HB5 := Lib.hid (HBB.out.trans (hb5.mono HBB.out.size))
      clear hr hb5 q0 q1 q2 q3 q4 q5 q6 q7 q8 q9 q10
      cases r with
      | true =>
        go_wp2
        go_roundw
        case rel => exact ⟨i + 1, by go_num, by omega, Lib.hid ⟨HB5.out, fun j hj => by
          by_cases e : j = i
          · subst e; rw [← HKN.out]; exact HR.out.1 (by first | rfl | trivial)
          · exact HV.out.2 j (by omega)⟩⟩
        case measure => simp [intOf]; omega
      | false =>
        go_wp2
        go_ret
        exact ⟨false, rfl, ⟨fun h => (by cases h), fun h => by
          have := HR.out.2 (by rw [HKN.out]; exact h.1 _ (kAt_mem HIL.out))
          cases this⟩, HB5.out⟩
    · obtain rfl : i = n := by omega
      have HALL := Lib.hid (show ∀ kn ∈ ks, LightP kn.n.lo kn.n.hi kn.n.ks.length kn.n.vs.length kn.n.cs.length kn.n.ks from fun kn hm => by
        obtain ⟨j, hj, rfl⟩ := List.mem_iff_getElem.1 hm
        have h := HV.out.2 j (by have := HL.out; omega)
        rw [kAt_eq hj] at h
        exact h)
      by_cases h40 : i ≤ 40
      · have h40' : (i : Int) ≤ 40 := by omega
        go_wp2
        go_ret
        exact ⟨true, rfl, ⟨fun _ => ⟨HALL.out, by have := HL.out; omega⟩, fun _ => rfl⟩, HV.out.1⟩
      · have h40' : ¬ (i : Int) ≤ 40 := by omega
        go_wp2
        go_ret
        exact ⟨false, rfl, ⟨fun h => (by cases h), fun h => by have := HL.out; have := h.2; omega⟩, HV.out.1⟩

end Go.Proofs.Ytgaacoeggikbpaa

namespace Go.Proofs.Ytgaacoeggikbpaa
open Go.RowKit Go.Maps

theorem fit_light {ks : List Kn} (h : ∀ kn ∈ ks, WfK kn) (hl : LightK ks) : ∀ j, j < ks.length → FitN (kAt ks j).n ∧ WfK (kAt ks j) := fun j hj => by
  have h1 := hl.1 _ (kAt_mem hj)
  have h2 : ∀ x ∈ (kAt ks j).n.ks, x.size ≤ 140737488355328 := fun x hx => by
    obtain ⟨i, hi, rfl⟩ := List.mem_iff_getElem.1 hx
    have := h1.k i hi
    rw [nth_eq hi] at this
    omega
  have h3 := h1.b
  have h4 := h1.n
  exact ⟨⟨⟨by omega, by omega, h2, by omega, by omega, by omega⟩, by omega, by omega⟩, h _ (kAt_mem hj)⟩
theorem Has.few {ks l : List Kn} (h : Has ks l) : l.length ≤ ks.length := by
  have h1 := nodup_len (l.map (·.c)) (ks.map (·.c)) (by
    have := h.apart
    rw [List.nodup_iff_pairwise_ne, List.pairwise_map]
    exact this) (fun x hx => by
    obtain ⟨m, hm, rfl⟩ := List.mem_map.1 hx
    exact List.mem_map.2 ⟨m, List.mem_of_find?_eq_some (h.leafs m hm).1, rfl⟩)
  rwa [List.length_map, List.length_map] at h1
theorem Has.sizes {ks l : List Kn} (h : Has ks l) (hf : ∀ j, j < ks.length → FitN (kAt ks j).n) : (∀ p ∈ allP l, p.1.size ≤ 140737488355328) ∧ (allP l).length ≤ 80 * ks.length := by
  have hk : ∀ m ∈ l, FitN m.n ∧ m.n.ks.length ≤ 80 := fun m hm => by
    obtain ⟨⟨j, hj, e⟩, _⟩ := kfind_at15 (h.leafs m hm).1
    have h1 := hf j hj
    rw [e] at h1
    have h2 := (h.t.sound (h.leafs m hm).1).keys.many
    exact ⟨h1, by omega⟩
  refine ⟨fun p hp => ?_, ?_⟩
  · obtain ⟨m, hm, hp2⟩ := List.mem_flatMap.1 hp
    obtain ⟨i, hi, e, _⟩ := prs_mem (leaf_len (h.t.sound (h.leafs m hm).1) (h.leafs m hm).2) hp2
    rw [e, nth_eq hi]
    exact (hk m hm).1.fit.ks _ (List.getElem_mem _)
  · have h1 := allP_len (l := l) (fun m hm => (hk m hm).2)
    have h2 := h.few
    omega
theorem emptyP_own (w : World) (B : Nat) (hB : B ≤ w.heap.size) : OwnP (w.alloc (.cells #[] 32)) B (.slice (some ⟨w.heap.size, 0, none⟩) 0 0) [] :=
  ⟨rfl, Or.inr ⟨w.heap.size, 0, #[], rfl, hB, heap_alloc_new w _, Nat.le_refl _, by unfold maxLen; omega, rfl, rfl⟩⟩
theorem pcells_set : ∀ (ps : List (ByteArray × Int)) (a : Nat) (z : Int), a < ps.length → (pcells ps).set (a * 2 + 1) (.int .u64 z) = pcells (ps.set a ((ntp ps a).1, z))
  | [], a, _, h => absurd h (Nat.not_lt_zero a)
  | p :: ps, 0, z, _ => rfl
  | p :: ps, a + 1, z, h => by
    have ih := pcells_set ps a z (by simpa using h)
    have e1 : pcells (p :: ps) = .string p.1 :: .int .u64 p.2 :: pcells ps := rfl
    have e2 : ntp (p :: ps) (a + 1) = ntp ps a := rfl
    rw [e1, e2, show (a + 1) * 2 + 1 = a * 2 + 1 + 1 + 1 by omega, List.set_cons_succ, List.set_cons_succ, ih, List.set_cons_succ]
    rfl
theorem OwnP.set {w : World} {B g n c : Nat} {ps : List (ByteArray × Int)} (h : OwnP w B (.slice (some ⟨g, 0, none⟩) n c) ps) {a : Nat} (ha : a < ps.length) (z : Int) :
    OwnP (w.setCell ⟨g, a * 2 + 1, none⟩ (.int .u64 z)) B (.slice (some ⟨g, 0, none⟩) n c) (ps.set a ((ntp ps a).1, z)) ∧ w.frozen? ⟨g, a * 2 + 1, none⟩ = false ∧ B ≤ g := by
  have hl := h.1
  rcases h.2 with ⟨e, _⟩ | ⟨g', cap, cur, e, hbg, hg, hnc, hm, hsz, htk⟩
  · cases e
  injection e with e1 e2 e3
  injection e1 with e1
  injection e1 with e1 _ _
  subst e1
  subst e3
  have hset := heap_setCell_same w g (a * 2 + 1) cur 32 (.int .u64 z) hg
  refine ⟨⟨by rw [pcells_len], Or.inr ⟨g, c, _, by rw [List.length_set, e2], hbg, hset, by rw [List.length_set]; exact hnc, hm, by simpa using hsz, ?_⟩⟩, by simp [World.frozen?, hg], hbg⟩
  rw [List.length_set, ← pcells_set ps a z ha, ← htk]
  simp only [Array.toList_setIfInBounds]
  rw [List.take_set]
theorem OwnP.val {w : World} {B g n c : Nat} {ps : List (ByteArray × Int)} (h : OwnP w B (.slice (some ⟨g, 0, none⟩) n c) ps) {a : Nat} (ha : a < ps.length) : w.cell? ⟨g, a * 2 + 1, none⟩ = some (.int .u64 (ntp ps a).2) := by
  have h1 := (World.ownsRow.cells h (g := g) rfl) (a * 2 + 1) _ (pcells_get ps a ha).2
  rw [show (⟨g, 0, none⟩ : Addr).add (a * 2 + 1) = ⟨g, a * 2 + 1, none⟩ by simp [Addr.add]] at h1
  exact h1
theorem OwnP.some {w : World} {B : Nat} {ao : Option Addr} {n c : Nat} {ps : List (ByteArray × Int)} (h : OwnP w B (.slice ao n c) ps) (h0 : 0 < ps.length) : ∃ g, ao = Option.some ⟨g, 0, none⟩ ∧ n ≤ c ∧ c ≤ 9223372036854775807 := by
  rcases h.2 with ⟨_, hz⟩ | ⟨g, cap, cur, e, _, _, hnc, hm, _⟩
  · omega
  injection e with e1 e2 e3
  unfold maxLen at hm
  exact ⟨g, e1, by omega, by omega⟩
set_option maxHeartbeats 8000000 in
set_option maxRecDepth 100000 in
theorem wholeAgrees_any (ao : Option Addr) (n c : Nat) (ks : List Kn) (fan z : Int) (w : World) (h : KsAt (PV w) w (.slice ao n c) ks) (hwf : ∀ kn ∈ ks, WfK kn) :
    Calls Try.prog 3 #[.slice ao n c, .int .i64 fan, .int .i64 z] w fun e w' => e = .returned (.bool true) ∧ Below w.heap.size w w' := by
  have HL := Lib.hid (light15_any w ao n c ks w (Below.refl _ _) h)
  have HLV := Lib.hid (fun W => lives15_any W)
  have HWF := Lib.hid hwf
  have HK := Lib.hid h
  have HLEN := Lib.hid h.len
  clear h hwf
  go_enter Try.func3, Try.ntmps3
  go_wp2_with fail
  refine HL.out.mono ?_
  rintro e w2 ⟨r, rfl, hr, hb2⟩
  have HX2 := Lib.hid hb2
  have HR := Lib.hid hr
  clear hb2 hr HL
  cases r with
  | false =>
    go_wp2_with fail
    refine (HLV.out _).mono ?_
    rintro e w9 ⟨rfl, hb9⟩
    have HX9 := Lib.hid (HX2.out.trans (hb9.mono HX2.out.size))
    clear hb9
    go_wp2
    go_ret
    exact ⟨rfl, HX9.out⟩
  | true =>
  have HLK := Lib.hid (HR.out.1 (by first | rfl | trivial))
  have hn40 : n ≤ 40 := by rw [HLEN.out.1]; exact HLK.out.2
  have HN40 := Lib.hid hn40
  have HFIT := Lib.hid (show ∀ j, j < n → FitN (kAt ks j).n ∧ WfK (kAt ks j) from fun j hj => fit_light HWF.out HLK.out j (by rw [← HLEN.out.1]; exact hj))
  have HWH := Lib.hid (whole_any w ao n c ks fan w2 HX2.out (HK.out.keep HX2.out) (by omega) HFIT.out)
  clear hn40 HR
  go_wp2_with fail
  refine HWH.out.mono ?_
  rintro e w3 ⟨r, rfl, hr, hb3⟩
  have HX3 := Lib.hid (HX2.out.trans (hb3.mono HX2.out.size))
  have HR := Lib.hid hr
  clear hb3 hr HWH
  cases r with
  | false =>
    go_wp2_with fail
    refine (HLV.out _).mono ?_
    rintro e w9 ⟨rfl, hb9⟩
    have HX9 := Lib.hid (HX3.out.trans (hb9.mono HX3.out.size))
    clear hb9
    go_wp2
    go_ret
    exact ⟨rfl, HX9.out⟩
  | true =>
  have HW := Lib.hid (HR.out.1 (by first | rfl | trivial))
  have HPR := Lib.hid (pairs15_any w ao n c ks fan w3 HX3.out (HK.out.keep HX3.out) (by have := HN40.out; omega) HFIT.out HW.out)
  clear HR
  go_wp2_with fail
  refine HPR.out.mono ?_
  rintro e w4 ⟨⟨v4, l, rfl, hown, hhas⟩, hb4⟩
  obtain ⟨ao4, c4, rfl⟩ := hown.open
  have HX4 := Lib.hid (HX3.out.trans (hb4.mono HX3.out.size))
  have HSZ := Lib.hid (hhas.sizes (fun j hj => (HFIT.out j (by rw [HLEN.out.1]; exact hj)).1))
  have HHAS := Lib.hid hhas
  obtain ⟨np, hnp⟩ : ∃ np, np = (allP l).length := ⟨_, rfl⟩
  have hnps : np ≤ 3200 := by have h1 := HSZ.out.2; have h2 := HN40.out; have h3 := HLEN.out.1; omega
  rw [← hnp] at hown ⊢
  have HNP := Lib.hid hnp
  have HOWN := Lib.hid hown
  have HAG := Lib.hid (fun W mo mc mn ps (hb : Below w.heap.size w W) (hr : RdP W (.slice mo mn mc) ps) (hz : ∀ p ∈ ps, p.1.size ≤ 140737488355328) (hmn : mn ≤ 274877906943) => agree_any w ao n c ks mo mn mc ps W hb (HK.out.keep hb) (by have := HN40.out; omega) (fun j hj => (HFIT.out j hj).1) hr hz hmn)
  clear hown hhas hb4 hnp HPR
  go_wp2_with fail
  refine (HAG.out w4 ao4 c4 np (allP l) HX4.out HOWN.out.rd HSZ.out.1 (by omega)).mono ?_
  rintro e w5 ⟨r5, rfl, hr5, hb5⟩
  obtain rfl : r5 = true := hr5.2 HHAS.out.agrees
  have HX5 := Lib.hid (HX4.out.trans (hb5.mono HX4.out.size))
  have HOWN5 := Lib.hid (HOWN.out.keep hb5)
  clear hr5 hb5 HOWN
  by_cases hz0 : z < 0
  · have hz0' : decide (z < 0) = true := decide_eq_true hz0
    go_wp2_with fail
    refine (HLV.out _).mono ?_
    rintro e w9 ⟨rfl, hb9⟩
    have HX9 := Lib.hid (HX5.out.trans (hb9.mono HX5.out.size))
    clear hb9
    go_wp2
    go_ret
    exact ⟨rfl, HX9.out⟩
  · by_cases hz1 : (np : Int) ≤ z
    · have hz1' : z ≥ (np : Int) := hz1
      go_wp2_with fail
      refine (HLV.out _).mono ?_
      rintro e w9 ⟨rfl, hb9⟩
      have HX9 := Lib.hid (HX5.out.trans (hb9.mono HX5.out.size))
      clear hb9
      go_wp2
      go_ret
      exact ⟨rfl, HX9.out⟩
    · obtain ⟨a, rfl⟩ : ∃ a : Nat, z = (a : Int) := ⟨z.toNat, by omega⟩
      have han : a < np := by omega
      obtain ⟨g4, rfl, hc1, hc2⟩ := HOWN5.out.some (by rw [← HNP.out]; omega)
      have HRD := Lib.hid HOWN5.out.rd
      have hcw : IntKind.i64.wrap ((a : Int) + 1) = (a : Int) + 1 := by rw [IntKind.wrap_i64]; omega
      have hcc : c4 = a + 1 ∨ a + 1 < c4 := by omega
      obtain ⟨ps, hps⟩ : ∃ ps, ps = allP l := ⟨_, rfl⟩
      rw [← hps] at HSZ HOWN5 HRD HNP
      have HPS := Lib.hid hps
      have HB5 := Lib.hid (show ∀ V, Below w5.heap.size w5 V → RdP V (.slice (some ⟨g4, 0, none⟩) a c4) (ps.take a) from fun V hV => (HRD.out.keep hV).head a (by omega))
      have HC5 := Lib.hid (show ∀ V, Below w5.heap.size w5 V → ∀ q, (a + 1 < c4 → q = (a + 1) * 2) → RdP V (.slice (some ⟨g4, q, none⟩) (np - (a + 1)) (c4 - (a + 1))) (ps.drop (a + 1)) from fun V hV q hq => (HRD.out.keep hV).cut (a + 1) (by omega) (fun h => by rw [hq (by omega)]; simp [Addr.add]))
      have HE0 : Hid (OwnP (w5.alloc (.cells #[] 32)).drew w5.heap.size (.slice (some ⟨w5.heap.size, 0, none⟩) 0 0) []) := Lib.hid ((emptyP_own w5 w5.heap.size (Nat.le_refl _)).keep (Below.refl _ _).drew)
      have HBE : Hid (Below w5.heap.size w5 (w5.alloc (.cells #[] 32)).drew) := Lib.hid (((Below.refl w5.heap.size w5).alloc (Nat.le_refl _) _).drew)
      have HLEN2 := Lib.hid (show (ps.take a).length + (ps.drop (a + 1)).length ≤ 1000000000000 from by rw [List.length_take, List.length_drop]; have := HNP.out; omega)
      have HLEN3 := Lib.hid (show (ps.take a).length ≤ 1000000000000 from by rw [List.length_take]; have := HNP.out; omega)
      clear hps
      have hle : (a : Int) ≤ (a : Int) + 1 := by omega
      go_upto_region 8 with fail
      go_cut [9] (fun v9 wx => Hid (OwnP wx w5.heap.size v9 (ps.take a ++ ps.drop (a + 1)) ∧ Below w5.heap.size w5 wx))
      case first =>
        rename_i J1 K1 hJ1 hK1
        rcases hcc with hcc | hcc
        · obtain rfl : np = a + 1 := by omega
          subst hcc
          have HC6 : Hid (∀ V, Below w5.heap.size w5 V → RdP V (.slice (some ⟨g4, 0, none⟩) 0 0) (ps.drop (a + 1))) := Lib.hid (fun V hV => by
            have h := HC5.out V hV 0 (by omega)
            rwa [Nat.sub_self] at h)
          have hge : (0 : Int) ≤ (a : Int) + 1 := by omega
          go_region_held_law (fun _ => True) (trivial) (first
            | (refine step_append_PR (o := ⟨some 47, _, _, _, _, _⟩) rfl (.tmp 43) (.tmp 46) rfl w5.heap.size (.slice (some ⟨w5.heap.size, 0, none⟩) 0 0) g4 0 a _ [] (ps.take a) rfl rfl (by with_reducible exact HE0.out) (HB5.out _ HBE.out) (by have := HLEN3.out; simp only [List.length_nil]; omega) HBE.out.size ?_; intro v6 w6 h6 g6; rw [List.nil_append] at h6; obtain ⟨a7, c7, rfl⟩ := h6.open; obtain ⟨n7, hn7⟩ : ∃ n, n = (ps.take a).length := ⟨_, rfl⟩; rw [← hn7] at h6 ⊢; have HL6 := Lib.hid h6; have HG6 := Lib.hid (HBE.out.trans g6.b); clear h6 g6 hn7)
            | (refine step_append_PR (o := ⟨some 52, _, _, _, _, _⟩) rfl (.tmp 47) (.tmp 51) rfl w5.heap.size (.slice a7 n7 c7) g4 0 0 0 (ps.take a) (ps.drop (a + 1)) rfl rfl HL6.out (HC6.out _ HG6.out) HLEN2.out HG6.out.size ?_; intro v8 w8 h8 g8; have HL8 := Lib.hid h8; have HG8 := Lib.hid (HG6.out.trans g8.b); clear h8 g8))
          refine hK1 _ _ (Met.intro (hJ1 _ _ ?_))
          (repeat apply Exists.intro)
          refine ⟨?_, rfl⟩
          exact Lib.hid ⟨HL8.out, HG8.out⟩
        · have HC6 : Hid (∀ V, Below w5.heap.size w5 V → RdP V (.slice (some ⟨g4, (a + 1) * 2, none⟩) (np - (a + 1)) (c4 - (a + 1))) (ps.drop (a + 1))) := Lib.hid (fun V hV => HC5.out V hV _ (fun _ => rfl))
          have hge : (0 : Int) ≤ (a : Int) + 1 := by omega
          have hac : (a : Int) ≤ c4 := by omega
          have hac1 : (a : Int) + 1 ≤ np := by omega
          have hnc : (np : Int) ≤ c4 := by omega
          have hne : ¬ c4 = a + 1 := by omega
          go_region_held_law (fun _ => True) (trivial) (first
            | (refine step_append_PR (o := ⟨some 47, _, _, _, _, _⟩) rfl (.tmp 43) (.tmp 46) rfl w5.heap.size (.slice (some ⟨w5.heap.size, 0, none⟩) 0 0) g4 0 a _ [] (ps.take a) rfl rfl (by with_reducible exact HE0.out) (HB5.out _ HBE.out) (by have := HLEN3.out; simp only [List.length_nil]; omega) HBE.out.size ?_; intro v6 w6 h6 g6; rw [List.nil_append] at h6; obtain ⟨a7, c7, rfl⟩ := h6.open; obtain ⟨n7, hn7⟩ : ∃ n, n = (ps.take a).length := ⟨_, rfl⟩; rw [← hn7] at h6 ⊢; have HL6 := Lib.hid h6; have HG6 := Lib.hid (HBE.out.trans g6.b); clear h6 g6 hn7)
            | (refine step_append_PR (o := ⟨some 52, _, _, _, _, _⟩) rfl (.tmp 47) (.tmp 51) rfl w5.heap.size (.slice a7 n7 c7) g4 ((a + 1) * 2) (np - (a + 1)) (c4 - (a + 1)) (ps.take a) (ps.drop (a + 1)) rfl rfl HL6.out (HC6.out _ HG6.out) HLEN2.out HG6.out.size ?_; intro v8 w8 h8 g8; have HL8 := Lib.hid h8; have HG8 := Lib.hid (HG6.out.trans g8.b); clear h8 g8))
          refine hK1 _ _ (Met.intro (hJ1 _ _ ?_))
          (repeat apply Exists.intro)
          refine ⟨?_, rfl⟩
          exact Lib.hid ⟨HL8.out, HG8.out⟩
      case rest =>
        clear hcc hle
        obtain ⟨hl9, hb9⟩ := hcut.out
        obtain ⟨ao9, c9, rfl⟩ := hl9.open
        obtain ⟨n9, hn9⟩ : ∃ n, n = (ps.take a ++ ps.drop (a + 1)).length := ⟨_, rfl⟩
        rw [← hn9] at hl9 ⊢
        have HL9 := Lib.hid hl9
        have HB9 := Lib.hid hb9
        have HN9 := Lib.hid hn9
        have HSM := Lib.hid (show ps.length ≤ 1000000000000 from by have := HNP.out; omega)
        obtain ⟨z1, hz1e⟩ : ∃ z1, z1 = (ntp ps a).2 := ⟨_, rfl⟩
        have HZ1 := Lib.hid hz1e
        clear hz1e
        have HPE := Lib.hid (emptyP_own wc wc.heap.size (Nat.le_refl _))
        have HRE := Lib.hid ((HRD.out.keep hb9).keep ((Below.refl wc.heap.size wc).alloc (Nat.le_refl _) (.cells #[] 32)))
        clear hcut hl9 hb9 hn9
        go_wp2_with (((with_reducible show wpList _ _ _ (⟨some 55, _, _, _, _, _⟩ :: _) _ _); refine wpList_append_PR rfl (.tmp 53) (.tmp 54) rfl wc.heap.size (.slice (some ⟨wc.heap.size, 0, none⟩) 0 0) g4 0 np c4 [] ps rfl rfl HPE.out HRE.out (by have := HSM.out; simp only [List.length_nil]; omega) (by rw [World.size_alloc]; exact Nat.le_succ _) ?_; intro v10 w10 h10 gw10; rw [List.nil_append] at h10; obtain ⟨ao10, c10, rfl⟩ := h10.open; rw [← HNP.out] at h10 ⊢; obtain ⟨g10, rfl, hd1, hd2⟩ := h10.some (by rw [← HNP.out]; omega); have q10 := h10.val (a := a) (by rw [← HNP.out]; exact han); have f10 := (h10.set (a := a) (by rw [← HNP.out]; exact han) 0).2.1; have HL10 := Lib.hid h10; have HG10 := Lib.hid gw10.b; rw [← HZ1.out] at q10; clear h10 gw10))
        obtain ⟨W11, hW11⟩ : ∃ W, W = w10.setCell ⟨g10, a * 2 + 1, none⟩ (.int .u64 (IntKind.u64.wrap (z1 + 1))) := ⟨_, rfl⟩
        rw [← hW11]
        have hapl : a < ps.length := by rw [← HNP.out]; exact han
        have hset := HL10.out.set (a := a) hapl (IntKind.u64.wrap (z1 + 1))
        rw [← hW11] at hset
        have b11 : Below wc.heap.size wc W11 := by
          have h1 := ((Below.refl wc.heap.size wc).alloc (Nat.le_refl _) (.cells #[] 32)).trans HG10.out
          rw [hW11]
          exact h1.trans ((Turn.setCell (S := fun j => j = g10) (Turn.refl _ w10) (Or.inl rfl) _).below (fun j e => by rw [show j = g10 from e]; exact hset.2.2) h1.size)
        have HO11 := Lib.hid hset.1
        have HL11 := Lib.hid (HL9.out.keep b11)
        have HX9 := HX5.out.trans (HB9.out.mono HX5.out.size)
        have HX11 := Lib.hid (HX9.trans (b11.mono HX9.size))
        have HMEM := Lib.hid (show ntp ps a ∈ allP l ∧ ps.Pairwise Less2 from ⟨by rw [← HPS.out, ntp_eq hapl]; exact List.getElem_mem _, by rw [HPS.out]; exact HHAS.out.rise⟩)
        have HN1 := Lib.hid (HHAS.out.lacks HMEM.out.1 (less_not HMEM.out.2 hapl))
        have HN2 := Lib.hid (HHAS.out.lacks HMEM.out.1 (other_not HMEM.out.2 hapl (v := IntKind.u64.wrap (z1 + 1)) (by rw [← HZ1.out]; exact wrap_ne z1)))
        have HZ2 := Lib.hid (show (∀ p ∈ ps.take a ++ ps.drop (a + 1), p.1.size ≤ 140737488355328) ∧ n9 ≤ 274877906943 ∧ (∀ p ∈ ps.set a ((ntp ps a).1, IntKind.u64.wrap (z1 + 1)), p.1.size ≤ 140737488355328) from ⟨fun p hp => HSZ.out.1 p (by
            rcases List.mem_append.1 hp with hp | hp
            · exact List.mem_of_mem_take hp
            · exact List.mem_of_mem_drop hp), by rw [HN9.out, List.length_append, List.length_take, List.length_drop]; have := HNP.out; omega, fun p hp => by
            rcases List.mem_or_eq_of_mem_set hp with hp | rfl
            · exact HSZ.out.1 p hp
            · have h9 := HSZ.out.1 (ntp ps a) (by rw [ntp_eq hapl]; exact List.getElem_mem _)
              exact h9⟩)
        clear hset b11 hW11 HX9 q10 f10
        refine (HAG.out W11 ao9 c9 n9 _ HX11.out HL11.out.rd HZ2.out.1 HZ2.out.2.1).mono ?_
        rintro e w12 ⟨r12, rfl, hr12, hb12⟩
        cases r12 with
        | true => exact absurd (hr12.1 (by first | rfl | trivial)) HN1.out
        | false =>
        have HX12 := Lib.hid (HX11.out.trans (hb12.mono HX11.out.size))
        have HO12 := Lib.hid (HO11.out.keep hb12)
        clear hr12 hb12 HO11 HL11
        go_wp2_with fail
        refine (HAG.out w12 (Option.some ⟨g10, 0, none⟩) c10 np _ HX12.out HO12.out.rd HZ2.out.2.2 (by omega)).mono ?_
        rintro e w13 ⟨r13, rfl, hr13, hb13⟩
        cases r13 with
        | true => exact absurd (hr13.1 (by first | rfl | trivial)) HN2.out
        | false =>
        have HX13 := Lib.hid (HX12.out.trans (hb13.mono HX12.out.size))
        clear hr13 hb13 HO12
        go_wp2_with fail
        refine (HLV.out _).mono ?_
        rintro e w9 ⟨rfl, hb9⟩
        have HX9 := Lib.hid (HX13.out.trans (hb9.mono HX13.out.size))
        clear hb9
        go_wp2
        go_ret
        exact ⟨rfl, HX9.out⟩
end Go.Proofs.Ytgaacoeggikbpaa
