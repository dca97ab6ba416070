/- The law HalveWhole, walked: all parts are sound neighbours, have as many entries, or the left one one more, and all of them; what was parted is merged to what it was. Condition: the node's rows are there. -/
import Derived.Test.YtlcnnnljdffbmaaHalveWholeM
import Derived.Test.YtlcnnnljdffbmaaNodeSameOps
namespace Go.Proofs.Ytlcnnnljdffbmaa
open Go.RowKit

theorem hw_keyB {k : ByteArray} (h : keyB k = true) : k.size ≤ 64 := ((keyB_iff k).1 h).2
/-- A sound node's sizes. -/
structure SmallP (n : Nod) : Prop where
  fit : Fit n.lo n.hi n.ks n.ks.length n.vs.length n.cs.length
  len : n.ks.length ≤ 64 ∧ n.vs.length ≤ 64 ∧ n.cs.length ≤ 64
theorem small_of {n : Nod} (h : n.Sound 64) : SmallP n := by
  have hm := h.keys.many
  have hk : n.ks.length ≤ 64 := by omega
  have hlen : n.vs.length ≤ 64 ∧ n.cs.length ≤ 64 := by
    by_cases h0 : n.lv = 0
    · obtain ⟨e1, e2, _⟩ := h.entries.leaf h0; omega
    · obtain ⟨e1, e2, e3, _⟩ := h.entries.inner h0; omega
  refine ⟨⟨by have := h.range.low; omega, ?_, fun x hx => ?_, by omega⟩, by omega⟩
  · cases hl : n.la with
    | true => have := (h.range.last hl).1; omega
    | false => have := hw_keyB (h.range.more hl).1; omega
  · obtain ⟨i, hi, rfl⟩ := List.getElem_of_mem hx
    rw [← nth_eq hi]
    by_cases h0 : n.lv = 0
    · have := hw_keyB ((h.entries.leaf h0).2.2 i hi); omega
    · obtain ⟨_, _, _, e4, e5, _⟩ := h.entries.inner h0
      by_cases hz : i = 0
      · subst hz; rw [e4]; have := h.range.low; omega
      · have := hw_keyB (e5 i (by omega) hi); omega
theorem fit_light13w {lo hi : ByteArray} {ks : List ByteArray} {nv nc : Nat} (h : LightP lo hi ks.length nv nc ks) : Fit lo hi ks ks.length nv nc := by
  refine ⟨by have := h.b; omega, by have := h.b; omega, fun x hx => ?_, by have := h.n; omega⟩
  obtain ⟨i, hi, rfl⟩ := List.getElem_of_mem hx
  have := h.k i hi
  rw [nth_eq hi] at this
  omega

theorem mergeN (a b n : Nod) (aka ava aca : Option Addr) (cka cva cca : Nat) (akb avb acb : Option Addr) (ckb cvb ccb : Nat) (w : World) (hN : NdAt w aka ava aca a.ks.length cka a.vs.length cva a.cs.length cca a.ks a.vs a.cs) (hM : NdAt w akb avb acb b.ks.length ckb b.vs.length cvb b.cs.length ccb b.ks b.vs b.cs) (h : a.MergeP b 64) (hn : a.both b = n) :
    Calls Try.prog 10 #[.agg #[.int .i64 a.lv, .string a.lo, .string a.hi, .bool a.la, .int .i64 a.nx, .slice aka a.ks.length cka, .slice ava a.vs.length cva, .slice aca a.cs.length cca], .agg #[.int .i64 b.lv, .string b.lo, .string b.hi, .bool b.la, .int .i64 b.nx, .slice akb b.ks.length ckb, .slice avb b.vs.length cvb, .slice acb b.cs.length ccb], .int .i64 64] w fun e w' => ∃ (akc avc acc : Option Addr) (ckc cvc ccc : Nat), e = .returned (.tuple #[.agg #[.int .i64 n.lv, .string n.lo, .string n.hi, .bool n.la, .int .i64 n.nx, .slice akc n.ks.length ckc, .slice avc n.vs.length cvc, .slice acc n.cs.length ccc], .bool true]) ∧ NdAt w' akc avc acc n.ks.length ckc n.vs.length cvc n.cs.length ccc n.ks n.vs n.cs ∧ Below w.heap.size w w' := by
  have ha := small_of h.1.a
  have hb := small_of h.1.b
  have hc := merge_of a.lv a.nx a.lo a.hi a.la aka ava aca cka cva cca b.lv b.nx b.lo b.hi b.la akb avb acb ckb cvb ccb a.ks a.vs a.cs b.ks b.vs b.cs 64 true w hN hM ha.fit hb.fit (by have := ha.len; have := hb.len; omega) ⟨fun _ => h, fun _ => rfl⟩
  have e : Nod.or true ((⟨a.lv, a.nx, a.lo, a.hi, a.la, a.ks, a.vs, a.cs⟩ : Nod).both ⟨b.lv, b.nx, b.lo, b.hi, b.la, b.ks, b.vs, b.cs⟩) = n := hn
  rw [e] at hc
  refine hc.mono ?_
  rintro e w' ⟨akc, avc, acc, ckc, cvc, ccc, rfl, hd, hB, _⟩
  exact ⟨akc, avc, acc, ckc, cvc, ccc, rfl, hd, hB⟩
theorem evenN (a b p q : Nod) (aka ava aca : Option Addr) (cka cva cca : Nat) (akb avb acb : Option Addr) (ckb cvb ccb : Nat) (w : World) (hN : NdAt w aka ava aca a.ks.length cka a.vs.length cva a.cs.length cca a.ks a.vs a.cs) (hM : NdAt w akb avb acb b.ks.length ckb b.vs.length cvb b.cs.length ccb b.ks b.vs b.cs) (h : a.EvenP b) (hp : (a.both b).left a.nx = p) (hq : (a.both b).right = q) :
    Calls Try.prog 13 #[.agg #[.int .i64 a.lv, .string a.lo, .string a.hi, .bool a.la, .int .i64 a.nx, .slice aka a.ks.length cka, .slice ava a.vs.length cva, .slice aca a.cs.length cca], .agg #[.int .i64 b.lv, .string b.lo, .string b.hi, .bool b.la, .int .i64 b.nx, .slice akb b.ks.length ckb, .slice avb b.vs.length cvb, .slice acb b.cs.length ccb]] w fun e w' => ∃ (akc avc acc : Option Addr) (ckc cvc ccc : Nat) (akd avd acd : Option Addr) (ckd cvd ccd : Nat), e = .returned (.tuple #[.agg #[.int .i64 p.lv, .string p.lo, .string p.hi, .bool p.la, .int .i64 p.nx, .slice akc p.ks.length ckc, .slice avc p.vs.length cvc, .slice acc p.cs.length ccc], .agg #[.int .i64 q.lv, .string q.lo, .string q.hi, .bool q.la, .int .i64 q.nx, .slice akd q.ks.length ckd, .slice avd q.vs.length cvd, .slice acd q.cs.length ccd], .bool true]) ∧ NdAt w' akc avc acc p.ks.length ckc p.vs.length cvc p.cs.length ccc p.ks p.vs p.cs ∧ NdAt w' akd avd acd q.ks.length ckd q.vs.length cvd q.cs.length ccd q.ks q.vs q.cs ∧ Below w.heap.size w w' := by
  have ha := small_of h.1.a
  have hb := small_of h.1.b
  have hc := even_of a.lv a.nx a.lo a.hi a.la aka ava aca cka cva cca b.lv b.nx b.lo b.hi b.la akb avb acb ckb cvb ccb a.ks a.vs a.cs b.ks b.vs b.cs true w hN hM ha.fit hb.fit (by have := ha.len; have := hb.len; omega) ⟨fun _ => h, fun _ => rfl⟩
  have e1 : Nod.or true (Nod.left ((⟨a.lv, a.nx, a.lo, a.hi, a.la, a.ks, a.vs, a.cs⟩ : Nod).both ⟨b.lv, b.nx, b.lo, b.hi, b.la, b.ks, b.vs, b.cs⟩) a.nx) = p := hp
  have e2 : Nod.or true (Nod.right ((⟨a.lv, a.nx, a.lo, a.hi, a.la, a.ks, a.vs, a.cs⟩ : Nod).both ⟨b.lv, b.nx, b.lo, b.hi, b.la, b.ks, b.vs, b.cs⟩)) = q := hq
  rw [e1, e2] at hc
  refine hc.mono ?_
  rintro e w' ⟨akc, avc, acc, akd, avd, acd, ckc, cvc, ccc, ckd, cvd, ccd, rfl, h1, h2, hB, _⟩
  exact ⟨akc, avc, acc, ckc, cvc, ccc, akd, avd, acd, ckd, cvd, ccd, rfl, h1, h2, hB⟩
theorem sameN (a : Nod) (aka ava aca : Option Addr) (cka cva cca : Nat) (akb avb acb : Option Addr) (ckb cvb ccb : Nat) (w : World) (hN : NdAt w aka ava aca a.ks.length cka a.vs.length cva a.cs.length cca a.ks a.vs a.cs) (hM : NdAt w akb avb acb a.ks.length ckb a.vs.length cvb a.cs.length ccb a.ks a.vs a.cs) :
    Calls Try.prog 12 #[.agg #[.int .i64 a.lv, .string a.lo, .string a.hi, .bool a.la, .int .i64 a.nx, .slice aka a.ks.length cka, .slice ava a.vs.length cva, .slice aca a.cs.length cca], .agg #[.int .i64 a.lv, .string a.lo, .string a.hi, .bool a.la, .int .i64 a.nx, .slice akb a.ks.length ckb, .slice avb a.vs.length cvb, .slice acb a.cs.length ccb]] w fun e w' => e = .returned (.bool true) ∧ Below w.heap.size w w' :=
  nsame_of a.lv a.nx a.lo a.hi a.la aka ava aca a.ks.length cka a.vs.length cva a.cs.length cca a.lv a.nx a.lo a.hi a.la akb avb acb a.ks.length ckb a.vs.length cvb a.cs.length ccb a.ks a.vs a.cs a.ks a.vs a.cs true w hN hM ⟨fun _ => ⟨rfl, rfl, rfl, rfl, rfl, rfl, rfl, rfl⟩, fun _ => rfl⟩
theorem checkN (a : Nod) (aka ava aca : Option Addr) (cka cva cca : Nat) (w : World) (hN : NdAt w aka ava aca a.ks.length cka a.vs.length cva a.cs.length cca a.ks a.vs a.cs) (h : a.Sound 64) :
    Calls Try.prog 49 #[.agg #[.int .i64 a.lv, .string a.lo, .string a.hi, .bool a.la, .int .i64 a.nx, .slice aka a.ks.length cka, .slice ava a.vs.length cva, .slice aca a.cs.length cca], .int .i64 64] w fun e w' => ∃ c : Int, e = .returned (.int .i64 c) ∧ (c == 0) = true ∧ (c != 0) = false ∧ Below w.heap.size w w' := by
  refine (check_of a.lv a.nx a.lo a.hi a.la aka ava aca a.ks.length cka a.vs.length cva a.cs.length cca a.ks a.vs a.cs 64 true w hN (small_of h).fit ⟨fun _ => ⟨by omega, h⟩, fun _ => rfl⟩).mono ?_
  rintro e w' ⟨c, rfl, h1, h2, hB⟩
  exact ⟨c, rfl, h1, h2, hB⟩
theorem coversN (a : Nod) (aka ava aca : Option Addr) (cka cva cca : Nat) (k : ByteArray) (w : World) (h : a.Sound 64) (hk : k.size ≤ 140737488355328) :
    Calls Try.prog 16 #[.agg #[.int .i64 a.lv, .string a.lo, .string a.hi, .bool a.la, .int .i64 a.nx, .slice aka a.ks.length cka, .slice ava a.vs.length cva, .slice aca a.cs.length cca], .string k] w fun e w' => e = .returned (.bool (insideB a.lo.data.toList a.hi.data.toList a.la k.data.toList)) ∧ Below w.heap.size w w' :=
  covers_any a.lv a.nx a.lo a.hi a.la aka ava aca a.ks.length cka a.vs.length cva a.cs.length cca k w (small_of h).fit.lo (small_of h).fit.hi hk

theorem kidAtW (lv nx : Int) (lo hi : ByteArray) (la : Bool) (ak av ac : Option Addr) (nk ck nv cv nc cc : Nat) (t : Int) (cs : List Int) (w : World) (hr : Rd w (.slice ac nc cc) (cs.map (Value.int .i64))) (h : lv ≠ 0) :
    Calls Try.prog 58 #[.agg #[.int .i64 lv, .string lo, .string hi, .bool la, .int .i64 nx, .slice ak nk ck, .slice av nv cv, .slice ac nc cc], .int .i64 t] w fun e w' => ∃ (x : Int) (r : Bool), e = .returned (.tuple #[.int .i64 x, .bool r]) ∧ (∀ j : Nat, t = j → j < nc → x = ni cs j ∧ r = true) ∧ Below w.heap.size w w' := by
  by_cases ht : 0 ≤ t ∧ t < nc
  · obtain ⟨j, rfl⟩ : ∃ j : Nat, t = j := ⟨t.toNat, by omega⟩
    refine (kidAt_yes lv nx lo hi la ak av ac nk ck nv cv nc cc j cs w hr h (by omega)).mono ?_
    rintro e w' ⟨rfl, hb⟩
    exact ⟨_, _, rfl, (fun i hi _ => (by obtain rfl : j = i := (by omega); exact ⟨rfl, rfl⟩)), hb⟩
  · refine (kidAt_no lv nx lo hi la ak av ac nk ck nv cv nc cc t w (by omega)).mono ?_
    rintro e w' ⟨rfl, hb⟩
    exact ⟨_, _, rfl, (fun i hi h2 => (by omega)), hb⟩

set_option maxHeartbeats 4000000 in
set_option maxRecDepth 100000 in
/-- node.Kid: the kid at the place, if there is one known. -/
theorem kidW (lv nx : Int) (lo hi : ByteArray) (la : Bool) (ak av ac : Option Addr) (nk ck nv cv nc cc : Nat) (ks : List ByteArray) (vs : List Nat) (cs : List Int) (k : ByteArray) (w : World) (hN : NdAt w ak av ac nk ck nv cv nc cc ks vs cs) (h0 : lv ≠ 0) (hk : k.size ≤ 140737488355328) (hx : ∀ x ∈ ks, x.size ≤ 140737488355328) (hn : nk ≤ 274877906944) (hr : Rises ks) :
    Calls Try.prog 15 #[.agg #[.int .i64 lv, .string lo, .string hi, .bool la, .int .i64 nx, .slice ak nk ck, .slice av nv cv, .slice ac nc cc], .string k] w fun e w' => ∃ (x : Int) (r : Bool), e = .returned (.tuple #[.int .i64 x, .bool r]) ∧ (∀ j, j < nc → (∀ a, Edge ks.length a (pFloor ks k) → a = j + 1) → x = ni cs j ∧ r = true) ∧ Below w.heap.size w w' := by
  have HB := Lib.hid (boxed_below w (.cells #[.int .i64 lv, .string lo, .string hi, .bool la, .int .i64 nx, .slice ak nk ck, .slice av nv cv, .slice ac nc cc] 26))
  have HNB := Lib.hid (NB.new w #[.int .i64 lv, .string lo, .string hi, .bool la, .int .i64 nx, .slice ak nk ck, .slice av nv cv, .slice ac nc cc])
  have HLN := Lib.hid (rd_len hN.k).1
  have HF := Lib.hid (fun W (hb : Below w.heap.size w W) => floor_any (.slice ak nk ck) k ks W (hN.k.keep hb) hk hx (by have := HLN.out; omega) hr)
  have HK := Lib.hid (fun t W (hb : Below w.heap.size w W) => kidAtW lv nx lo hi la ak av ac nk ck nv cv nc cc t cs W (hN.c.keep hb) h0)
  obtain ⟨w1, hw1⟩ : ∃ w1, w1 = w.alloc (.cells #[.int .i64 lv, .string lo, .string hi, .bool la, .int .i64 nx, .slice ak nk ck, .slice av nv cv, .slice ac nc cc] 26) := ⟨_, rfl⟩
  have HC : Hid (∀ V, Below w1.heap.size w1 V → (V.cell? ⟨w.heap.size, 0, none⟩ = some (.int .i64 lv) ∧ V.cell? ⟨w.heap.size, 1, none⟩ = some (.string lo) ∧ V.cell? ⟨w.heap.size, 2, none⟩ = some (.string hi) ∧ V.cell? ⟨w.heap.size, 3, none⟩ = some (.bool la) ∧ V.cell? ⟨w.heap.size, 4, none⟩ = some (.int .i64 nx) ∧ V.cell? ⟨w.heap.size, 5, none⟩ = some (.slice ak nk ck) ∧ V.cell? ⟨w.heap.size, 6, none⟩ = some (.slice av nv cv) ∧ V.cell? ⟨w.heap.size, 7, none⟩ = some (.slice ac nc cc)) ∧ Below w1.heap.size w1 V) := Lib.hid (fun V hV => ⟨(NB.below (V := w1) (by rw [hw1]; exact HNB.out) hV).cells, hV⟩)
  have HB1 : Hid (Below w.heap.size w w1) := Lib.hid (by rw [hw1]; exact HB.out)
  have HW1 := Lib.hid hw1
  have hS0 := HC.out w1.drew (Below.refl _ _).drew
  clear hN h0 hk hx hn hr hw1
  go_enter Try.func15, Try.ntmps15
  go_wp2
  rw [← HW1.out]
  first | (go_region_held_law (fun V => (V.cell? ⟨w.heap.size, 0, none⟩ = some (.int .i64 lv) ∧ V.cell? ⟨w.heap.size, 1, none⟩ = some (.string lo) ∧ V.cell? ⟨w.heap.size, 2, none⟩ = some (.string hi) ∧ V.cell? ⟨w.heap.size, 3, none⟩ = some (.bool la) ∧ V.cell? ⟨w.heap.size, 4, none⟩ = some (.int .i64 nx) ∧ V.cell? ⟨w.heap.size, 5, none⟩ = some (.slice ak nk ck) ∧ V.cell? ⟨w.heap.size, 6, none⟩ = some (.slice av nv cv) ∧ V.cell? ⟨w.heap.size, 7, none⟩ = some (.slice ac nc cc)) ∧ Below w1.heap.size w1 V) (first | (with_reducible exact hS0) | exact HC.out _ hA1 | exact HC.out _ hA2 | assumption) (first | (go_at_call 59; refine (HF.out _ (HB1.out.trans ((Below.refl w1.heap.size w1).drew.mono HB1.out.size))).mono ?_; rintro e wa ⟨a1, rfl, hE1, hb1⟩; have hA1 := (Below.refl w1.heap.size w1).drew.trans (hb1.mono (Nat.le_refl _))) | (go_at_call 58; refine (HK.out _ _ (HB1.out.trans (hA1.mono HB1.out.size))).mono ?_; rintro e wb ⟨x1, r1, rfl, hx1, hb2⟩; have hA2 := hA1.trans (hb2.mono hA1.size)))) | fail
  all_goals
    go_wp2
    go_ret2
    refine ⟨x1, r1, rfl, fun j hj he => ?_, HB1.out.trans (hA2.mono HB1.out.size)⟩
    have h1 := he a1 hE1
    exact hx1 j (by omega) hj

theorem kidN (a : Nod) (aka ava aca : Option Addr) (cka cva cca : Nat) (k : ByteArray) (kid : Int) (w : World) (hN : NdAt w aka ava aca a.ks.length cka a.vs.length cva a.cs.length cca a.ks a.vs a.cs) (h : a.Sound 64) (h0 : a.lv ≠ 0) (hk : k.size ≤ 140737488355328) (hp : insideB a.lo.data.toList a.hi.data.toList a.la k.data.toList = true → ∃ p, p < a.cs.length ∧ ni a.cs p = kid ∧ ∀ e, Edge a.ks.length e (pFloor a.ks k) → e = p + 1) :
    Calls Try.prog 15 #[.agg #[.int .i64 a.lv, .string a.lo, .string a.hi, .bool a.la, .int .i64 a.nx, .slice aka a.ks.length cka, .slice ava a.vs.length cva, .slice aca a.cs.length cca], .string k] w fun e w' => ∃ (x : Int) (r : Bool), e = .returned (.tuple #[.int .i64 x, .bool r]) ∧ (insideB a.lo.data.toList a.hi.data.toList a.la k.data.toList = true → x = kid ∧ r = true) ∧ Below w.heap.size w w' := by
  refine (kidW a.lv a.nx a.lo a.hi a.la aka ava aca a.ks.length cka a.vs.length cva a.cs.length cca a.ks a.vs a.cs k w hN h0 hk (small_of h).fit.ks (by have := (small_of h).len; omega) h.keys.rise).mono ?_
  rintro e w' ⟨x, r, rfl, h1, hB⟩
  refine ⟨x, r, rfl, fun hi => ?_, hB⟩
  obtain ⟨p, p1, p2, p3⟩ := hp hi
  rw [← p2]
  exact h1 p p1 p3

theorem txt_same13 {a b : ByteArray} (h : a = b) : (a.toList == b.toList) = true ∧ (a.toList != b.toList) = false := by
  subst h
  exact ⟨by simp, by simp⟩
set_option maxHeartbeats 4000000 in
set_option maxRecDepth 100000 in
theorem wholeN (a b : Nod) (aka ava aca : Option Addr) (cka cva cca : Nat) (akb avb acb : Option Addr) (ckb cvb ccb : Nat) (many : Nat) (w : World) (hN : NdAt w aka ava aca a.ks.length cka a.vs.length cva a.cs.length cca a.ks a.vs a.cs) (hM : NdAt w akb avb acb b.ks.length ckb b.vs.length cvb b.cs.length ccb b.ks b.vs b.cs) (ha : a.Sound 64) (hb : b.Sound 64) (h1 : a.hi = b.lo) (h2 : a.la = false) (h3 : a.lv = b.lv) (h4 : a.ks.length + b.ks.length = many) (h5 : a.ks.length = b.ks.length ∨ a.ks.length = b.ks.length + 1) :
    Calls Try.prog 11 #[.agg #[.int .i64 a.lv, .string a.lo, .string a.hi, .bool a.la, .int .i64 a.nx, .slice aka a.ks.length cka, .slice ava a.vs.length cva, .slice aca a.cs.length cca], .agg #[.int .i64 b.lv, .string b.lo, .string b.hi, .bool b.la, .int .i64 b.nx, .slice akb b.ks.length ckb, .slice avb b.vs.length cvb, .slice acb b.cs.length ccb], .int .i64 (many : Nat)] w fun e w' => e = .returned (.bool true) ∧ Below w.heap.size w w' := by
  obtain ⟨n1, n2, hB⟩ := boxes2 w #[.int .i64 a.lv, .string a.lo, .string a.hi, .bool a.la, .int .i64 a.nx, .slice aka a.ks.length cka, .slice ava a.vs.length cva, .slice aca a.cs.length cca] #[.int .i64 b.lv, .string b.lo, .string b.hi, .bool b.la, .int .i64 b.nx, .slice akb b.ks.length ckb, .slice avb b.vs.length cvb, .slice acb b.cs.length ccb]
  obtain ⟨W1, hW1⟩ : ∃ W, W = (w.alloc (.cells #[.int .i64 a.lv, .string a.lo, .string a.hi, .bool a.la, .int .i64 a.nx, .slice aka a.ks.length cka, .slice ava a.vs.length cva, .slice aca a.cs.length cca] 26)).alloc (.cells #[.int .i64 b.lv, .string b.lo, .string b.hi, .bool b.la, .int .i64 b.nx, .slice akb b.ks.length ckb, .slice avb b.vs.length cvb, .slice acb b.cs.length ccb] 26) := ⟨_, rfl⟩
  rw [← hW1] at n1 n2 hB
  have HB := Lib.hid hB
  have HN1 := Lib.hid n1
  have HN2 := Lib.hid n2
  have HW1 := Lib.hid hW1
  have HCA := Lib.hid (fun W (h : Below W1.heap.size W1 W) => checkN a aka ava aca cka cva cca W ((hN.keep hB).keep h) ha)
  have HCB := Lib.hid (fun W (h : Below W1.heap.size W1 W) => checkN b akb avb acb ckb cvb ccb W ((hM.keep hB).keep h) hb)
  obtain ⟨t1, t2⟩ := txt_same13 h1
  have l1 : (a.lv == b.lv) = true := by rw [beq_iff_eq]; exact h3
  have l2 : (a.lv != b.lv) = false := by rw [bne_eq_false_iff_eq]; exact h3
  have hla := (small_of ha).len.1
  have hlb := (small_of hb).len.1
  have s1 : ((a.ks.length : Int) + (b.ks.length : Int) == (many : Int)) = true := by rw [beq_iff_eq]; omega
  have s2 : ((a.ks.length : Int) - (b.ks.length : Int) == 0) = true ∨ (((a.ks.length : Int) - (b.ks.length : Int) == 0) = false ∧ ((a.ks.length : Int) - (b.ks.length : Int) == 1) = true) := by
    rcases h5 with h | h
    · left; rw [beq_iff_eq]; omega
    · right; rw [beq_eq_false_iff_ne, beq_iff_eq]; omega
  obtain ⟨q0, q1, q2, q3, q4, q5, q6, q7⟩ := n1.cells
  have HLA := Lib.hid h2
  clear n1 n2 hB hW1 hN hM ha hb h1 h3 h4 h5 h2
  go_enter Try.func11, Try.ntmps11
  go_upto_region 1 with fail
  rw [← HW1.out]
  clear HW1
  go_wp2_with fail
  refine (HCA.out _ (Below.refl _ _)).mono ?_
  rintro e w2 ⟨c1, rfl, c2, c3, hb2⟩
  have HB2 := Lib.hid hb2
  clear q0 q1 q2 q3 q4 q5 q6 q7 hb2
  obtain ⟨r0, r1, r2, r3, r4, r5, r6, r7⟩ := (HN2.out.below HB2.out).cells
  go_wp2_with fail
  refine (HCB.out _ HB2.out).mono ?_
  rintro e w3 ⟨d1, rfl, d2, d3, hb3⟩
  have HB3 := Lib.hid (HB2.out.trans (hb3.mono HB2.out.size))
  clear r0 r1 r2 r3 r4 r5 r6 r7 hb3
  obtain ⟨q0, q1, q2, q3, q4, q5, q6, q7⟩ := (HN1.out.below HB3.out).cells
  obtain ⟨r0, r1, r2, r3, r4, r5, r6, r7⟩ := (HN2.out.below HB3.out).cells
  rw [HLA.out] at q3
  rcases s2 with s2 | ⟨s2, s3⟩
  all_goals
    go_wp2
    go_ret
    exact ⟨rfl, HB.out.trans (HB3.out.mono HB.out.size)⟩

theorem hw_split {n : Nod} {cell : Int} (h : n.SplitP cell) : ((Nod.or true (n.left cell)).MergeP (Nod.or true n.right) 64 ∧ (Nod.or true (n.left cell)).both (Nod.or true n.right) = n ∧ (Nod.or true (n.left cell)).EvenP (Nod.or true n.right) ∧ ((Nod.or true (n.left cell)).both (Nod.or true n.right)).left (Nod.or true (n.left cell)).nx = (Nod.or true (n.left cell)) ∧ (Nod.or true (n.left cell)).nx = cell) ∧ ((Nod.or true (n.left cell)).Sound 64 ∧ (Nod.or true n.right).Sound 64 ∧ (Nod.or true (n.left cell)).hi = (Nod.or true n.right).lo ∧ (Nod.or true (n.left cell)).la = false ∧ (Nod.or true (n.left cell)).lv = (Nod.or true n.right).lv ∧ (Nod.or true (n.left cell)).ks.length + (Nod.or true n.right).ks.length = n.ks.length ∧ ((Nod.or true (n.left cell)).ks.length = (Nod.or true n.right).ks.length ∨ (Nod.or true (n.left cell)).ks.length = (Nod.or true n.right).ks.length + 1)) ∧ ((Nod.or true (n.left cell)).both (Nod.or true n.right)).right = (Nod.or true n.right) := by
  have hm : n.ks.length ≤ 128 := by have := h.1.keys.many; omega
  have hnb := hw_nb h.1 h.2.1 hm h.2.2
  have hb := hw_both n cell
  obtain ⟨l1, l2⟩ := hw_lens (n := n) cell
  have hh : hlf n.ks.length = n.ks.length - n.ks.length / 2 := rfl
  show ((n.left cell).MergeP n.right 64 ∧ (n.left cell).both n.right = n ∧ (n.left cell).EvenP n.right ∧ ((n.left cell).both n.right).left (n.left cell).nx = n.left cell ∧ (n.left cell).nx = cell) ∧ ((n.left cell).Sound 64 ∧ n.right.Sound 64 ∧ (n.left cell).hi = n.right.lo ∧ (n.left cell).la = false ∧ (n.left cell).lv = n.right.lv ∧ (n.left cell).ks.length + n.right.ks.length = n.ks.length ∧ ((n.left cell).ks.length = n.right.ks.length ∨ (n.left cell).ks.length = n.right.ks.length + 1)) ∧ ((n.left cell).both n.right).right = n.right
  rw [l1, l2]
  exact ⟨⟨hw_merge h, hb, hw_even h, by rw [hb]; rfl, rfl⟩, ⟨hnb.a, hnb.b, hnb.border, hnb.last, hnb.level, by omega, by omega⟩, by rw [hb]⟩
theorem hw_burst {n : Nod} {low : ByteArray} {kid cell : Int} (h : n.BurstP low kid cell) : (Nod.or true ((n.post low kid).left cell)).Sound 64 ∧ (Nod.or true (n.post low kid).right).Sound 64 ∧ (Nod.or true ((n.post low kid).left cell)).hi = (Nod.or true (n.post low kid).right).lo ∧ (Nod.or true ((n.post low kid).left cell)).la = false ∧ (Nod.or true ((n.post low kid).left cell)).lv = (Nod.or true (n.post low kid).right).lv ∧ (Nod.or true ((n.post low kid).left cell)).ks.length + (Nod.or true (n.post low kid).right).ks.length = n.ks.length + 1 ∧ ((Nod.or true ((n.post low kid).left cell)).ks.length = (Nod.or true (n.post low kid).right).ks.length ∨ (Nod.or true ((n.post low kid).left cell)).ks.length = (Nod.or true (n.post low kid).right).ks.length + 1) ∧ (Nod.or true ((n.post low kid).left cell)).nx = cell ∧ ((Nod.or true ((n.post low kid).left cell)).lv ≠ 0 ∧ (Nod.or true (n.post low kid).right).lv ≠ 0) ∧ (insideB (Nod.or true ((n.post low kid).left cell)).lo.data.toList (Nod.or true ((n.post low kid).left cell)).hi.data.toList (Nod.or true ((n.post low kid).left cell)).la low.data.toList = true → ∃ p, p < (Nod.or true ((n.post low kid).left cell)).cs.length ∧ ni (Nod.or true ((n.post low kid).left cell)).cs p = kid ∧ ∀ a, Edge (Nod.or true ((n.post low kid).left cell)).ks.length a (pFloor (Nod.or true ((n.post low kid).left cell)).ks low) → a = p + 1) ∧ (insideB (Nod.or true (n.post low kid).right).lo.data.toList (Nod.or true (n.post low kid).right).hi.data.toList (Nod.or true (n.post low kid).right).la low.data.toList = true → ∃ p, p < (Nod.or true (n.post low kid).right).cs.length ∧ ni (Nod.or true (n.post low kid).right).cs p = kid ∧ ∀ a, Edge (Nod.or true (n.post low kid).right).ks.length a (pFloor (Nod.or true (n.post low kid).right).ks low) → a = p + 1) := by
  obtain ⟨hs, hlk, h2, hle⟩ := hw_post h
  have hm : (n.post low kid).ks.length ≤ 128 := by have := hs.keys.many; omega
  have hnb := hw_nb hs h2 hm h.2.1
  obtain ⟨l1, l2⟩ := hw_lens (n := n.post low kid) cell
  have hh : hlf (n.post low kid).ks.length = (n.post low kid).ks.length - (n.post low kid).ks.length / 2 := rfl
  have hl : n.lv ≠ 0 := by have := h.1.1; omega
  refine ⟨hnb.a, hnb.b, hnb.border, hnb.last, hnb.level, ?_, ?_, rfl, ⟨hl, hl⟩, fun hc => hw_kid_left h hc, fun hc => hw_kid_right h hc⟩
  · show ((n.post low kid).left cell).ks.length + (n.post low kid).right.ks.length = n.ks.length + 1
    rw [l1, l2]; omega
  · show ((n.post low kid).left cell).ks.length = (n.post low kid).right.ks.length ∨ ((n.post low kid).left cell).ks.length = (n.post low kid).right.ks.length + 1
    rw [l1, l2]; omega

set_option maxHeartbeats 16000000 in
set_option maxRecDepth 100000 in
theorem halveWhole_any (n : Nod) (ak av ac : Option Addr) (ck cv cc : Nat) (low : ByteArray) (kid cell : Int) (w : World) (hN : NdAt w ak av ac n.ks.length ck n.vs.length cv n.cs.length cc n.ks n.vs n.cs) :
    Calls Try.prog 3 #[.agg #[.int .i64 n.lv, .string n.lo, .string n.hi, .bool n.la, .int .i64 n.nx, .slice ak n.ks.length ck, .slice av n.vs.length cv, .slice ac n.cs.length cc], .string low, .int .i64 kid, .int .i64 cell] w fun e w' => e = .returned (.bool true) ∧ Below w.heap.size w w' := by
  have HB := Lib.hid (boxed_below w (.cells #[.int .i64 n.lv, .string n.lo, .string n.hi, .bool n.la, .int .i64 n.nx, .slice ak n.ks.length ck, .slice av n.vs.length cv, .slice ac n.cs.length cc] 26))
  have HNB := Lib.hid (NB.new w #[.int .i64 n.lv, .string n.lo, .string n.hi, .bool n.la, .int .i64 n.nx, .slice ak n.ks.length ck, .slice av n.vs.length cv, .slice ac n.cs.length cc])
  have HND := Lib.hid (hN.keep HB.out)
  obtain ⟨w1, hw1⟩ : ∃ w1, w1 = w.alloc (.cells #[.int .i64 n.lv, .string n.lo, .string n.hi, .bool n.la, .int .i64 n.nx, .slice ak n.ks.length ck, .slice av n.vs.length cv, .slice ac n.cs.length cc] 26) := ⟨_, rfl⟩
  rw [← hw1] at HB HNB HND
  have HW1 := Lib.hid hw1
  have HL := Lib.hid (nlight_any n.lv n.nx n.lo n.hi n.la ak av ac n.ks.length ck n.vs.length cv n.cs.length cc n.ks w1 HND.out.k (by have := rd_len hN.v; omega) (by have := rd_len hN.c; omega))
  have HLV := Lib.hid lives13_any
  obtain ⟨q0, q1, q2, q3, q4, q5, q6, q7⟩ := HNB.out.cells
  have HE := HB
  have HXn := HNB
  have HYn := HND
  clear hN hw1 HB HNB HND
  go_enter Try.func3, Try.ntmps3
  go_wp2_with fail
  rw [← HW1.out]
  refine HL.out.mono ?_
  rintro e w2 ⟨r, rfl, hr, hb2⟩
  have HP := Lib.hid hr
  clear hr q0 q1 q2 q3 q4 q5 q6 q7 HL HW1
  replace HXn := Lib.hid (HXn.out.below hb2)
  replace HYn := Lib.hid (HYn.out.keep hb2)
  replace HE := Lib.hid (HE.out.trans (hb2.mono HE.out.size))
  clear hb2
  cases r with
  | false =>
    go_wp2_with fail
    refine (HLV.out _).mono ?_
    rintro e wl ⟨rfl, hbl⟩
    have HBL := Lib.hid (HE.out.trans (hbl.mono HE.out.size))
    clear hbl
    go_wp2
    go_ret
    exact ⟨rfl, HBL.out⟩
  | true =>
  have HLP := Lib.hid (HP.out.1 rfl)
  have HFT := Lib.hid (fit_light13w HLP.out)
  by_cases hk : 100 < low.size
  case pos =>
    have hk2 : (100 : Int) < low.size := by omega
    go_wp2_with fail
    refine (HLV.out _).mono ?_
    rintro e wl ⟨rfl, hbl⟩
    have HBL := Lib.hid (HE.out.trans (hbl.mono HE.out.size))
    clear hbl
    go_wp2
    go_ret
    exact ⟨rfl, HBL.out⟩
  have hk2 : (low.size : Int) ≤ 100 := by omega
  have hks : low.size ≤ 140737488355328 := by omega
  have hn80 : n.ks.length ≤ 80 := HLP.out.n.1
  obtain ⟨b, hb⟩ := bool_or (n.SplitP cell)
  obtain ⟨c, hc⟩ := bool_or (n.BurstP low kid cell)
  have HSP : Hid (∀ W, NdAt W ak av ac n.ks.length ck n.vs.length cv n.cs.length cc n.ks n.vs n.cs → Calls Try.prog 9 #[.agg #[.int .i64 n.lv, .string n.lo, .string n.hi, .bool n.la, .int .i64 n.nx, .slice ak n.ks.length ck, .slice av n.vs.length cv, .slice ac n.cs.length cc], .int .i64 cell] W fun e w' => GaveTwo W w' e b (Nod.or b (n.left cell)) (Nod.or b n.right)) := Lib.hid (fun W h => split_of n.lv n.nx n.lo n.hi n.la ak av ac ck cv cc n.ks n.vs n.cs cell b W h HFT.out hb)
  have HBU : Hid (∀ W, NdAt W ak av ac n.ks.length ck n.vs.length cv n.cs.length cc n.ks n.vs n.cs → Calls Try.prog 14 #[.agg #[.int .i64 n.lv, .string n.lo, .string n.hi, .bool n.la, .int .i64 n.nx, .slice ak n.ks.length ck, .slice av n.vs.length cv, .slice ac n.cs.length cc], .string low, .int .i64 kid, .int .i64 cell] W fun e w' => GaveTwo W w' e c (Nod.or c ((n.post low kid).left cell)) (Nod.or c (n.post low kid).right)) := Lib.hid (fun W h => burst_of n.lv n.nx n.lo n.hi n.la ak av ac ck cv cc n.ks n.vs n.cs low kid cell c W h HFT.out hks hc)
  have HPA : Hid (b = true → ((Nod.or b (n.left cell)).MergeP (Nod.or b n.right) 64 ∧ (Nod.or b (n.left cell)).both (Nod.or b n.right) = n ∧ (Nod.or b (n.left cell)).EvenP (Nod.or b n.right) ∧ ((Nod.or b (n.left cell)).both (Nod.or b n.right)).left (Nod.or b (n.left cell)).nx = (Nod.or b (n.left cell)) ∧ (Nod.or b (n.left cell)).nx = cell) ∧ ((Nod.or b (n.left cell)).Sound 64 ∧ (Nod.or b n.right).Sound 64 ∧ (Nod.or b (n.left cell)).hi = (Nod.or b n.right).lo ∧ (Nod.or b (n.left cell)).la = false ∧ (Nod.or b (n.left cell)).lv = (Nod.or b n.right).lv ∧ (Nod.or b (n.left cell)).ks.length + (Nod.or b n.right).ks.length = n.ks.length ∧ ((Nod.or b (n.left cell)).ks.length = (Nod.or b n.right).ks.length ∨ (Nod.or b (n.left cell)).ks.length = (Nod.or b n.right).ks.length + 1)) ∧ ((Nod.or b (n.left cell)).both (Nod.or b n.right)).right = (Nod.or b n.right)) := Lib.hid (fun h => by
    have hsp := hb.1 h
    subst h
    exact hw_split hsp)
  have HPC : Hid (c = true → (Nod.or c ((n.post low kid).left cell)).Sound 64 ∧ (Nod.or c (n.post low kid).right).Sound 64 ∧ (Nod.or c ((n.post low kid).left cell)).hi = (Nod.or c (n.post low kid).right).lo ∧ (Nod.or c ((n.post low kid).left cell)).la = false ∧ (Nod.or c ((n.post low kid).left cell)).lv = (Nod.or c (n.post low kid).right).lv ∧ (Nod.or c ((n.post low kid).left cell)).ks.length + (Nod.or c (n.post low kid).right).ks.length = n.ks.length + 1 ∧ ((Nod.or c ((n.post low kid).left cell)).ks.length = (Nod.or c (n.post low kid).right).ks.length ∨ (Nod.or c ((n.post low kid).left cell)).ks.length = (Nod.or c (n.post low kid).right).ks.length + 1) ∧ (Nod.or c ((n.post low kid).left cell)).nx = cell ∧ ((Nod.or c ((n.post low kid).left cell)).lv ≠ 0 ∧ (Nod.or c (n.post low kid).right).lv ≠ 0) ∧ (insideB (Nod.or c ((n.post low kid).left cell)).lo.data.toList (Nod.or c ((n.post low kid).left cell)).hi.data.toList (Nod.or c ((n.post low kid).left cell)).la low.data.toList = true → ∃ p, p < (Nod.or c ((n.post low kid).left cell)).cs.length ∧ ni (Nod.or c ((n.post low kid).left cell)).cs p = kid ∧ ∀ a, Edge (Nod.or c ((n.post low kid).left cell)).ks.length a (pFloor (Nod.or c ((n.post low kid).left cell)).ks low) → a = p + 1) ∧ (insideB (Nod.or c (n.post low kid).right).lo.data.toList (Nod.or c (n.post low kid).right).hi.data.toList (Nod.or c (n.post low kid).right).la low.data.toList = true → ∃ p, p < (Nod.or c (n.post low kid).right).cs.length ∧ ni (Nod.or c (n.post low kid).right).cs p = kid ∧ ∀ a, Edge (Nod.or c (n.post low kid).right).ks.length a (pFloor (Nod.or c (n.post low kid).right).ks low) → a = p + 1)) := Lib.hid (fun h => by
    have hbp := hc.1 h
    subst h
    exact hw_burst hbp)
  generalize Nod.or b (n.left cell) = pa at HSP HPA
  generalize Nod.or b n.right = pb at HSP HPA
  generalize Nod.or c ((n.post low kid).left cell) = pc at HBU HPC
  generalize Nod.or c (n.post low kid).right = pd at HBU HPC
  have HSP' : Hid (∀ W, NdAt W ak av ac n.ks.length ck n.vs.length cv n.cs.length cc n.ks n.vs n.cs → Calls Try.prog 9 #[.agg #[.int .i64 n.lv, .string n.lo, .string n.hi, .bool n.la, .int .i64 n.nx, .slice ak n.ks.length ck, .slice av n.vs.length cv, .slice ac n.cs.length cc], .int .i64 cell] W fun e w' => GaveTwo W w' e b pa pb) := HSP
  have hn0 : (n.ks.length : Int) + 1 ≤ 81 := by omega
  clear hb hc hk HP HLP HFT HSP
  obtain ⟨q0, q1, q2, q3, q4, q5, q6, q7⟩ := HXn.out.cells
  go_wp2_with fail
  refine (HSP'.out _ HYn.out).mono ?_
  rintro e w4 ⟨akA, avA, acA, akB, avB, acB, ckA, cvA, ccA, ckB, cvB, ccB, rfl, hda, hdb, hb4, _⟩
  clear q0 q1 q2 q3 q4 q5 q6 q7
  cases b with
  | false =>
    clear HPA
    replace HXn := Lib.hid (HXn.out.below hb4)
    replace HYn := Lib.hid (HYn.out.keep hb4)
    replace HE := Lib.hid (HE.out.trans (hb4.mono HE.out.size))
    obtain ⟨ma, mb, hx⟩ := boxes2 w4 #[.int .i64 pa.lv, .string pa.lo, .string pa.hi, .bool pa.la, .int .i64 pa.nx, .slice akA pa.ks.length ckA, .slice avA pa.vs.length cvA, .slice acA pa.cs.length ccA] #[.int .i64 pb.lv, .string pb.lo, .string pb.hi, .bool pb.la, .int .i64 pb.nx, .slice akB pb.ks.length ckB, .slice avB pb.vs.length cvB, .slice acB pb.cs.length ccB]
    obtain ⟨W4, hW⟩ : ∃ W, W = (w4.alloc (.cells #[.int .i64 pa.lv, .string pa.lo, .string pa.hi, .bool pa.la, .int .i64 pa.nx, .slice akA pa.ks.length ckA, .slice avA pa.vs.length cvA, .slice acA pa.cs.length ccA] 26)).alloc (.cells #[.int .i64 pb.lv, .string pb.lo, .string pb.hi, .bool pb.la, .int .i64 pb.nx, .slice akB pb.ks.length ckB, .slice avB pb.vs.length cvB, .slice acB pb.cs.length ccB] 26) := ⟨_, rfl⟩
    rw [← hW] at ma mb hx
    replace HXn := Lib.hid (HXn.out.below hx)
    replace HYn := Lib.hid (HYn.out.keep hx)
    replace HE := Lib.hid (HE.out.trans (hx.mono HE.out.size))
    have HXA := Lib.hid ma
    have HXB := Lib.hid mb
    have HYA := Lib.hid (hda.keep hx)
    have HYB := Lib.hid (hdb.keep hx)
    have HW := Lib.hid hW
    clear hW hx ma mb hda hdb hb4
    go_upto_region 4 with fail
    rw [← HW.out]
    clear HW
    clear HXA HXB HYA HYB
    obtain ⟨q0, q1, q2, q3, q4, q5, q6, q7⟩ := HXn.out.cells
    go_wp2_with fail
    refine (HBU.out _ HYn.out).mono ?_
    rintro e w20 ⟨akP, avP, acP, akQ, avQ, acQ, ckP, cvP, ccP, ckQ, cvQ, ccQ, rfl, hda, hdb, hb20, _⟩
    clear q0 q1 q2 q3 q4 q5 q6 q7
    cases c with
    | false =>
      replace HXn := Lib.hid (HXn.out.below hb20)
      replace HYn := Lib.hid (HYn.out.keep hb20)
      replace HE := Lib.hid (HE.out.trans (hb20.mono HE.out.size))
      obtain ⟨ma, mb, hx⟩ := boxes2 w20 #[.int .i64 pc.lv, .string pc.lo, .string pc.hi, .bool pc.la, .int .i64 pc.nx, .slice akP pc.ks.length ckP, .slice avP pc.vs.length cvP, .slice acP pc.cs.length ccP] #[.int .i64 pd.lv, .string pd.lo, .string pd.hi, .bool pd.la, .int .i64 pd.nx, .slice akQ pd.ks.length ckQ, .slice avQ pd.vs.length cvQ, .slice acQ pd.cs.length ccQ]
      obtain ⟨W20, hW⟩ : ∃ W, W = (w20.alloc (.cells #[.int .i64 pc.lv, .string pc.lo, .string pc.hi, .bool pc.la, .int .i64 pc.nx, .slice akP pc.ks.length ckP, .slice avP pc.vs.length cvP, .slice acP pc.cs.length ccP] 26)).alloc (.cells #[.int .i64 pd.lv, .string pd.lo, .string pd.hi, .bool pd.la, .int .i64 pd.nx, .slice akQ pd.ks.length ckQ, .slice avQ pd.vs.length cvQ, .slice acQ pd.cs.length ccQ] 26) := ⟨_, rfl⟩
      rw [← hW] at ma mb hx
      replace HXn := Lib.hid (HXn.out.below hx)
      replace HYn := Lib.hid (HYn.out.keep hx)
      replace HE := Lib.hid (HE.out.trans (hx.mono HE.out.size))
      have HXP := Lib.hid ma
      have HXQ := Lib.hid mb
      have HYP := Lib.hid (hda.keep hx)
      have HYQ := Lib.hid (hdb.keep hx)
      have HW := Lib.hid hW
      clear hW hx ma mb hda hdb hb20
      go_upto_region 12 with fail
      rw [← HW.out]
      clear HW
      go_wp2_with fail
      refine (HLV.out _).mono ?_
      rintro e wl ⟨rfl, hbl⟩
      have HBL := Lib.hid (HE.out.trans (hbl.mono HE.out.size))
      clear hbl
      go_wp2
      go_ret
      exact ⟨rfl, HBL.out⟩
    | true =>
      replace HXn := Lib.hid (HXn.out.below hb20)
      replace HYn := Lib.hid (HYn.out.keep hb20)
      replace HE := Lib.hid (HE.out.trans (hb20.mono HE.out.size))
      obtain ⟨ma, mb, hx⟩ := boxes2 w20 #[.int .i64 pc.lv, .string pc.lo, .string pc.hi, .bool pc.la, .int .i64 pc.nx, .slice akP pc.ks.length ckP, .slice avP pc.vs.length cvP, .slice acP pc.cs.length ccP] #[.int .i64 pd.lv, .string pd.lo, .string pd.hi, .bool pd.la, .int .i64 pd.nx, .slice akQ pd.ks.length ckQ, .slice avQ pd.vs.length cvQ, .slice acQ pd.cs.length ccQ]
      obtain ⟨W20, hW⟩ : ∃ W, W = (w20.alloc (.cells #[.int .i64 pc.lv, .string pc.lo, .string pc.hi, .bool pc.la, .int .i64 pc.nx, .slice akP pc.ks.length ckP, .slice avP pc.vs.length cvP, .slice acP pc.cs.length ccP] 26)).alloc (.cells #[.int .i64 pd.lv, .string pd.lo, .string pd.hi, .bool pd.la, .int .i64 pd.nx, .slice akQ pd.ks.length ckQ, .slice avQ pd.vs.length cvQ, .slice acQ pd.cs.length ccQ] 26) := ⟨_, rfl⟩
      rw [← hW] at ma mb hx
      replace HXn := Lib.hid (HXn.out.below hx)
      replace HYn := Lib.hid (HYn.out.keep hx)
      replace HE := Lib.hid (HE.out.trans (hx.mono HE.out.size))
      have HXP := Lib.hid ma
      have HXQ := Lib.hid mb
      have HYP := Lib.hid (hda.keep hx)
      have HYQ := Lib.hid (hdb.keep hx)
      have HW := Lib.hid hW
      clear hW hx ma mb hda hdb hb20
      go_upto_region 12 with fail
      rw [← HW.out]
      clear HW
      obtain ⟨hs1, hs2, hbr, hla, hlv, hsum, hdif, hnx, hin, hkp, hkq⟩ := HPC.out (by first | rfl | trivial)
      have HS1 := Lib.hid hs1
      have HS2 := Lib.hid hs2
      have HKP := Lib.hid hkp
      have HKQ := Lib.hid hkq
      have HIN := Lib.hid hin
      have hnx1 : (pc.nx == cell) = true := by rw [beq_iff_eq]; exact hnx
      have hnx2 : (pc.nx != cell) = false := by rw [bne_eq_false_iff_eq]; exact hnx
      have HWH := Lib.hid (wholeN pc pd akP avP acP ckP cvP ccP akQ avQ acQ ckQ cvQ ccQ (n.ks.length + 1) _ HYP.out HYQ.out hs1 hs2 hbr hla hlv hsum hdif)
      rw [show (((n.ks.length + 1 : Nat)) : Int) = (n.ks.length : Int) + 1 from rfl] at HWH
      clear hs1 hs2 hbr hla hlv hsum hdif hnx hkp hkq hin HPC
      obtain ⟨q0, q1, q2, q3, q4, q5, q6, q7⟩ := HXn.out.cells
      obtain ⟨r0, r1, r2, r3, r4, r5, r6, r7⟩ := HXP.out.cells
      obtain ⟨t0, t1, t2, t3, t4, t5, t6, t7⟩ := HXQ.out.cells
      clear q0 q1 q2 q3 q4 q6 q7
      go_wp2_with fail
      refine (HWH.out).mono ?_
      rintro e w21 ⟨rfl, hb21⟩
      clear q5 HWH
      clear r0 r1 r2 r3 r4 r5 r6 r7 t0 t1 t2 t3 t4 t5 t6 t7
      replace HXn := Lib.hid (HXn.out.below hb21)
      replace HYn := Lib.hid (HYn.out.keep hb21)
      replace HXP := Lib.hid (HXP.out.below hb21)
      replace HYP := Lib.hid (HYP.out.keep hb21)
      replace HXQ := Lib.hid (HXQ.out.below hb21)
      replace HYQ := Lib.hid (HYQ.out.keep hb21)
      replace HE := Lib.hid (HE.out.trans (hb21.mono HE.out.size))
      clear hb21
      obtain ⟨r0, r1, r2, r3, r4, r5, r6, r7⟩ := HXP.out.cells
      have HK1 := Lib.hid (kidN pc akP avP acP ckP cvP ccP low kid _ HYP.out HS1.out HIN.out.1 hks HKP.out)
      go_wp2_with fail
      refine (HK1.out).mono ?_
      rintro e w22 ⟨x1, rr1, rfl, hk1, hb22⟩
      clear r0 r1 r2 r3 r4 r5 r6 r7
      replace HXn := Lib.hid (HXn.out.below hb22)
      replace HYn := Lib.hid (HYn.out.keep hb22)
      replace HXP := Lib.hid (HXP.out.below hb22)
      replace HYP := Lib.hid (HYP.out.keep hb22)
      replace HXQ := Lib.hid (HXQ.out.below hb22)
      replace HYQ := Lib.hid (HYQ.out.keep hb22)
      replace HE := Lib.hid (HE.out.trans (hb22.mono HE.out.size))
      clear hb22 HK1
      have HK1 := Lib.hid hk1
      clear hk1
      obtain ⟨t0, t1, t2, t3, t4, t5, t6, t7⟩ := HXQ.out.cells
      have HK2 := Lib.hid (kidN pd akQ avQ acQ ckQ cvQ ccQ low kid _ HYQ.out HS2.out HIN.out.2 hks HKQ.out)
      go_wp2_with fail
      refine (HK2.out).mono ?_
      rintro e w23 ⟨x2, rr2, rfl, hk2, hb23⟩
      clear t0 t1 t2 t3 t4 t5 t6 t7
      replace HXn := Lib.hid (HXn.out.below hb23)
      replace HYn := Lib.hid (HYn.out.keep hb23)
      replace HXP := Lib.hid (HXP.out.below hb23)
      replace HYP := Lib.hid (HYP.out.keep hb23)
      replace HXQ := Lib.hid (HXQ.out.below hb23)
      replace HYQ := Lib.hid (HYQ.out.keep hb23)
      replace HE := Lib.hid (HE.out.trans (hb23.mono HE.out.size))
      clear hb23 HK2
      have HK2 := Lib.hid hk2
      clear hk2
      have HC1 := Lib.hid (fun W => coversN pc akP avP acP ckP cvP ccP low W HS1.out hks)
      have HC2 := Lib.hid (fun W => coversN pd akQ avQ acQ ckQ cvQ ccQ low W HS2.out hks)
      generalize insideB pc.lo.data.toList pc.hi.data.toList pc.la low.data.toList = cp at *
      generalize insideB pd.lo.data.toList pd.hi.data.toList pd.la low.data.toList = cq at *
      cases cp with
      | true =>
        obtain ⟨e1, e2⟩ := HK1.out (by first | rfl | trivial)
        subst e1; subst e2
        clear HK1 HKP
        obtain ⟨r0, r1, r2, r3, r4, r5, r6, r7⟩ := HXP.out.cells
        go_wp2_with fail
        refine (HC1.out _).mono ?_
        rintro e w24 ⟨rfl, hb24⟩
        clear r0 r1 r2 r3 r4 r5 r6 r7
        replace HXn := Lib.hid (HXn.out.below hb24)
        replace HYn := Lib.hid (HYn.out.keep hb24)
        replace HXP := Lib.hid (HXP.out.below hb24)
        replace HYP := Lib.hid (HYP.out.keep hb24)
        replace HXQ := Lib.hid (HXQ.out.below hb24)
        replace HYQ := Lib.hid (HYQ.out.keep hb24)
        replace HE := Lib.hid (HE.out.trans (hb24.mono HE.out.size))
        clear hb24 HC1
        cases cq with
        | true =>
          obtain ⟨e3, e4⟩ := HK2.out (by first | rfl | trivial)
          subst e3; subst e4
          clear HK2 HKQ
          obtain ⟨t0, t1, t2, t3, t4, t5, t6, t7⟩ := HXQ.out.cells
          go_wp2_with fail
          refine (HC2.out _).mono ?_
          rintro e w25 ⟨rfl, hb25⟩
          clear t0 t1 t2 t3 t4 t5 t6 t7
          replace HXn := Lib.hid (HXn.out.below hb25)
          replace HYn := Lib.hid (HYn.out.keep hb25)
          replace HXP := Lib.hid (HXP.out.below hb25)
          replace HYP := Lib.hid (HYP.out.keep hb25)
          replace HXQ := Lib.hid (HXQ.out.below hb25)
          replace HYQ := Lib.hid (HYQ.out.keep hb25)
          replace HE := Lib.hid (HE.out.trans (hb25.mono HE.out.size))
          clear hb25 HC2
          go_wp2_with fail
          refine (HLV.out _).mono ?_
          rintro e wl ⟨rfl, hbl⟩
          have HBL := Lib.hid (HE.out.trans (hbl.mono HE.out.size))
          clear hbl
          go_wp2
          go_ret
          exact ⟨rfl, HBL.out⟩
        | false =>
          clear HK2 HKQ
          obtain ⟨t0, t1, t2, t3, t4, t5, t6, t7⟩ := HXQ.out.cells
          go_wp2_with fail
          refine (HC2.out _).mono ?_
          rintro e w25 ⟨rfl, hb25⟩
          clear t0 t1 t2 t3 t4 t5 t6 t7
          replace HXn := Lib.hid (HXn.out.below hb25)
          replace HYn := Lib.hid (HYn.out.keep hb25)
          replace HXP := Lib.hid (HXP.out.below hb25)
          replace HYP := Lib.hid (HYP.out.keep hb25)
          replace HXQ := Lib.hid (HXQ.out.below hb25)
          replace HYQ := Lib.hid (HYQ.out.keep hb25)
          replace HE := Lib.hid (HE.out.trans (hb25.mono HE.out.size))
          clear hb25 HC2
          go_wp2_with fail
          refine (HLV.out _).mono ?_
          rintro e wl ⟨rfl, hbl⟩
          have HBL := Lib.hid (HE.out.trans (hbl.mono HE.out.size))
          clear hbl
          go_wp2
          go_ret
          exact ⟨rfl, HBL.out⟩
      | false =>
        clear HK1 HKP
        obtain ⟨r0, r1, r2, r3, r4, r5, r6, r7⟩ := HXP.out.cells
        go_wp2_with fail
        refine (HC1.out _).mono ?_
        rintro e w24 ⟨rfl, hb24⟩
        clear r0 r1 r2 r3 r4 r5 r6 r7
        replace HXn := Lib.hid (HXn.out.below hb24)
        replace HYn := Lib.hid (HYn.out.keep hb24)
        replace HXP := Lib.hid (HXP.out.below hb24)
        replace HYP := Lib.hid (HYP.out.keep hb24)
        replace HXQ := Lib.hid (HXQ.out.below hb24)
        replace HYQ := Lib.hid (HYQ.out.keep hb24)
        replace HE := Lib.hid (HE.out.trans (hb24.mono HE.out.size))
        clear hb24 HC1
        cases cq with
        | true =>
          obtain ⟨e3, e4⟩ := HK2.out (by first | rfl | trivial)
          subst e3; subst e4
          clear HK2 HKQ
          obtain ⟨t0, t1, t2, t3, t4, t5, t6, t7⟩ := HXQ.out.cells
          go_wp2_with fail
          refine (HC2.out _).mono ?_
          rintro e w25 ⟨rfl, hb25⟩
          clear t0 t1 t2 t3 t4 t5 t6 t7
          replace HXn := Lib.hid (HXn.out.below hb25)
          replace HYn := Lib.hid (HYn.out.keep hb25)
          replace HXP := Lib.hid (HXP.out.below hb25)
          replace HYP := Lib.hid (HYP.out.keep hb25)
          replace HXQ := Lib.hid (HXQ.out.below hb25)
          replace HYQ := Lib.hid (HYQ.out.keep hb25)
          replace HE := Lib.hid (HE.out.trans (hb25.mono HE.out.size))
          clear hb25 HC2
          go_wp2_with fail
          refine (HLV.out _).mono ?_
          rintro e wl ⟨rfl, hbl⟩
          have HBL := Lib.hid (HE.out.trans (hbl.mono HE.out.size))
          clear hbl
          go_wp2
          go_ret
          exact ⟨rfl, HBL.out⟩
        | false =>
          clear HK2 HKQ
          obtain ⟨t0, t1, t2, t3, t4, t5, t6, t7⟩ := HXQ.out.cells
          go_wp2_with fail
          refine (HC2.out _).mono ?_
          rintro e w25 ⟨rfl, hb25⟩
          clear t0 t1 t2 t3 t4 t5 t6 t7
          replace HXn := Lib.hid (HXn.out.below hb25)
          replace HYn := Lib.hid (HYn.out.keep hb25)
          replace HXP := Lib.hid (HXP.out.below hb25)
          replace HYP := Lib.hid (HYP.out.keep hb25)
          replace HXQ := Lib.hid (HXQ.out.below hb25)
          replace HYQ := Lib.hid (HYQ.out.keep hb25)
          replace HE := Lib.hid (HE.out.trans (hb25.mono HE.out.size))
          clear hb25 HC2
          go_wp2_with fail
          refine (HLV.out _).mono ?_
          rintro e wl ⟨rfl, hbl⟩
          have HBL := Lib.hid (HE.out.trans (hbl.mono HE.out.size))
          clear hbl
          go_wp2
          go_ret
          exact ⟨rfl, HBL.out⟩
  | true =>
    replace HXn := Lib.hid (HXn.out.below hb4)
    replace HYn := Lib.hid (HYn.out.keep hb4)
    replace HE := Lib.hid (HE.out.trans (hb4.mono HE.out.size))
    obtain ⟨ma, mb, hx⟩ := boxes2 w4 #[.int .i64 pa.lv, .string pa.lo, .string pa.hi, .bool pa.la, .int .i64 pa.nx, .slice akA pa.ks.length ckA, .slice avA pa.vs.length cvA, .slice acA pa.cs.length ccA] #[.int .i64 pb.lv, .string pb.lo, .string pb.hi, .bool pb.la, .int .i64 pb.nx, .slice akB pb.ks.length ckB, .slice avB pb.vs.length cvB, .slice acB pb.cs.length ccB]
    obtain ⟨W4, hW⟩ : ∃ W, W = (w4.alloc (.cells #[.int .i64 pa.lv, .string pa.lo, .string pa.hi, .bool pa.la, .int .i64 pa.nx, .slice akA pa.ks.length ckA, .slice avA pa.vs.length cvA, .slice acA pa.cs.length ccA] 26)).alloc (.cells #[.int .i64 pb.lv, .string pb.lo, .string pb.hi, .bool pb.la, .int .i64 pb.nx, .slice akB pb.ks.length ckB, .slice avB pb.vs.length cvB, .slice acB pb.cs.length ccB] 26) := ⟨_, rfl⟩
    rw [← hW] at ma mb hx
    replace HXn := Lib.hid (HXn.out.below hx)
    replace HYn := Lib.hid (HYn.out.keep hx)
    replace HE := Lib.hid (HE.out.trans (hx.mono HE.out.size))
    have HXA := Lib.hid ma
    have HXB := Lib.hid mb
    have HYA := Lib.hid (hda.keep hx)
    have HYB := Lib.hid (hdb.keep hx)
    have HW := Lib.hid hW
    clear hW hx ma mb hda hdb hb4
    go_upto_region 4 with fail
    rw [← HW.out]
    clear HW
    obtain ⟨⟨hmp, hbo, hev, hle, hnx⟩, ⟨hs1, hs2, hbr, hla, hlv, hsum, hdif⟩, hri⟩ := HPA.out (by first | rfl | trivial)
    have HMG := Lib.hid (fun W h1 h2 => mergeN pa pb n akA avA acA ckA cvA ccA akB avB acB ckB cvB ccB W h1 h2 hmp hbo)
    have HEV := Lib.hid (fun W h1 h2 => evenN pa pb pa pb akA avA acA ckA cvA ccA akB avB acB ckB cvB ccB W h1 h2 hev hle hri)
    have HWH := Lib.hid (fun W h1 h2 => wholeN pa pb akA avA acA ckA cvA ccA akB avB acB ckB cvB ccB n.ks.length W h1 h2 hs1 hs2 hbr hla hlv hsum hdif)
    have HWE := Lib.hid (fun f1 f2 f3 f4 f5 f6 g1 g2 g3 g4 g5 g6 W h1 h2 => wholeN pa pb f1 f2 f3 f4 f5 f6 g1 g2 g3 g4 g5 g6 n.ks.length W h1 h2 hs1 hs2 hbr hla hlv hsum hdif)
    have hnx1 : (pa.nx == cell) = true := by rw [beq_iff_eq]; exact hnx
    have hnx2 : (pa.nx != cell) = false := by rw [bne_eq_false_iff_eq]; exact hnx
    clear hmp hbo hev hle hnx hs1 hs2 hbr hla hlv hsum hdif hri HPA
    obtain ⟨r0, r1, r2, r3, r4, r5, r6, r7⟩ := HXA.out.cells
    obtain ⟨t0, t1, t2, t3, t4, t5, t6, t7⟩ := HXB.out.cells
    go_wp2_with fail
    refine (HMG.out _ HYA.out HYB.out).mono ?_
    rintro e w5 ⟨akC, avC, acC, ckC, cvC, ccC, rfl, hda, hb5⟩
    clear r0 r1 r2 r3 r4 r5 r6 r7 t0 t1 t2 t3 t4 t5 t6 t7
    replace HXn := Lib.hid (HXn.out.below hb5)
    replace HYn := Lib.hid (HYn.out.keep hb5)
    replace HXA := Lib.hid (HXA.out.below hb5)
    replace HYA := Lib.hid (HYA.out.keep hb5)
    replace HXB := Lib.hid (HXB.out.below hb5)
    replace HYB := Lib.hid (HYB.out.keep hb5)
    replace HE := Lib.hid (HE.out.trans (hb5.mono HE.out.size))
    have hx := boxed_below w5 (.cells #[.int .i64 n.lv, .string n.lo, .string n.hi, .bool n.la, .int .i64 n.nx, .slice akC n.ks.length ckC, .slice avC n.vs.length cvC, .slice acC n.cs.length ccC] 26)
    have ma := NB.new w5 #[.int .i64 n.lv, .string n.lo, .string n.hi, .bool n.la, .int .i64 n.nx, .slice akC n.ks.length ckC, .slice avC n.vs.length cvC, .slice acC n.cs.length ccC]
    obtain ⟨W5, hW⟩ : ∃ W, W = w5.alloc (.cells #[.int .i64 n.lv, .string n.lo, .string n.hi, .bool n.la, .int .i64 n.nx, .slice akC n.ks.length ckC, .slice avC n.vs.length cvC, .slice acC n.cs.length ccC] 26) := ⟨_, rfl⟩
    rw [← hW] at ma hx
    replace HXn := Lib.hid (HXn.out.below hx)
    replace HYn := Lib.hid (HYn.out.keep hx)
    replace HXA := Lib.hid (HXA.out.below hx)
    replace HYA := Lib.hid (HYA.out.keep hx)
    replace HXB := Lib.hid (HXB.out.below hx)
    replace HYB := Lib.hid (HYB.out.keep hx)
    replace HE := Lib.hid (HE.out.trans (hx.mono HE.out.size))
    have HXC := Lib.hid ma
    have HYC := Lib.hid (hda.keep hx)
    have HW := Lib.hid hW
    clear hW hx ma hda hb5
    go_upto_region 6 with fail
    rw [← HW.out]
    clear HW
    obtain ⟨r0, r1, r2, r3, r4, r5, r6, r7⟩ := HXA.out.cells
    obtain ⟨t0, t1, t2, t3, t4, t5, t6, t7⟩ := HXB.out.cells
    have q5 := HXn.out.cells.2.2.2.2.2.1
    go_wp2_with fail
    refine (HWH.out _ HYA.out HYB.out).mono ?_
    rintro e w6 ⟨rfl, hb6⟩
    clear q5
    clear r0 r1 r2 r3 r4 r5 r6 r7 t0 t1 t2 t3 t4 t5 t6 t7
    replace HXn := Lib.hid (HXn.out.below hb6)
    replace HYn := Lib.hid (HYn.out.keep hb6)
    replace HXA := Lib.hid (HXA.out.below hb6)
    replace HYA := Lib.hid (HYA.out.keep hb6)
    replace HXB := Lib.hid (HXB.out.below hb6)
    replace HYB := Lib.hid (HYB.out.keep hb6)
    replace HXC := Lib.hid (HXC.out.below hb6)
    replace HYC := Lib.hid (HYC.out.keep hb6)
    replace HE := Lib.hid (HE.out.trans (hb6.mono HE.out.size))
    clear hb6
    have r4 := HXA.out.cells.2.2.2.2.1
    obtain ⟨t0, t1, t2, t3, t4, t5, t6, t7⟩ := HXC.out.cells
    obtain ⟨q0, q1, q2, q3, q4, q5, q6, q7⟩ := HXn.out.cells
    go_wp2_with fail
    refine (sameN n akC avC acC ckC cvC ccC ak av ac ck cv cc _ HYC.out HYn.out).mono ?_
    rintro e w7 ⟨rfl, hb7⟩
    clear r4
    clear q0 q1 q2 q3 q4 q5 q6 q7 t0 t1 t2 t3 t4 t5 t6 t7
    replace HXn := Lib.hid (HXn.out.below hb7)
    replace HYn := Lib.hid (HYn.out.keep hb7)
    replace HXA := Lib.hid (HXA.out.below hb7)
    replace HYA := Lib.hid (HYA.out.keep hb7)
    replace HXB := Lib.hid (HXB.out.below hb7)
    replace HYB := Lib.hid (HYB.out.keep hb7)
    replace HXC := Lib.hid (HXC.out.below hb7)
    replace HYC := Lib.hid (HYC.out.keep hb7)
    replace HE := Lib.hid (HE.out.trans (hb7.mono HE.out.size))
    clear hb7 HXC HYC
    obtain ⟨r0, r1, r2, r3, r4, r5, r6, r7⟩ := HXA.out.cells
    obtain ⟨t0, t1, t2, t3, t4, t5, t6, t7⟩ := HXB.out.cells
    go_wp2_with fail
    refine (HEV.out _ HYA.out HYB.out).mono ?_
    rintro e w8 ⟨akD, avD, acD, ckD, cvD, ccD, akE, avE, acE, ckE, cvE, ccE, rfl, hda, hdb, hb8⟩
    clear r0 r1 r2 r3 r4 r5 r6 r7 t0 t1 t2 t3 t4 t5 t6 t7
    replace HXn := Lib.hid (HXn.out.below hb8)
    replace HYn := Lib.hid (HYn.out.keep hb8)
    replace HXA := Lib.hid (HXA.out.below hb8)
    replace HYA := Lib.hid (HYA.out.keep hb8)
    replace HXB := Lib.hid (HXB.out.below hb8)
    replace HYB := Lib.hid (HYB.out.keep hb8)
    replace HE := Lib.hid (HE.out.trans (hb8.mono HE.out.size))
    obtain ⟨ma, mb, hx⟩ := boxes2 w8 #[.int .i64 pa.lv, .string pa.lo, .string pa.hi, .bool pa.la, .int .i64 pa.nx, .slice akD pa.ks.length ckD, .slice avD pa.vs.length cvD, .slice acD pa.cs.length ccD] #[.int .i64 pb.lv, .string pb.lo, .string pb.hi, .bool pb.la, .int .i64 pb.nx, .slice akE pb.ks.length ckE, .slice avE pb.vs.length cvE, .slice acE pb.cs.length ccE]
    obtain ⟨W8, hW⟩ : ∃ W, W = (w8.alloc (.cells #[.int .i64 pa.lv, .string pa.lo, .string pa.hi, .bool pa.la, .int .i64 pa.nx, .slice akD pa.ks.length ckD, .slice avD pa.vs.length cvD, .slice acD pa.cs.length ccD] 26)).alloc (.cells #[.int .i64 pb.lv, .string pb.lo, .string pb.hi, .bool pb.la, .int .i64 pb.nx, .slice akE pb.ks.length ckE, .slice avE pb.vs.length cvE, .slice acE pb.cs.length ccE] 26) := ⟨_, rfl⟩
    rw [← hW] at ma mb hx
    replace HXn := Lib.hid (HXn.out.below hx)
    replace HYn := Lib.hid (HYn.out.keep hx)
    replace HXA := Lib.hid (HXA.out.below hx)
    replace HYA := Lib.hid (HYA.out.keep hx)
    replace HXB := Lib.hid (HXB.out.below hx)
    replace HYB := Lib.hid (HYB.out.keep hx)
    replace HE := Lib.hid (HE.out.trans (hx.mono HE.out.size))
    have HXD := Lib.hid ma
    have HXE := Lib.hid mb
    have HYD := Lib.hid (hda.keep hx)
    have HYE := Lib.hid (hdb.keep hx)
    have HW := Lib.hid hW
    clear hW hx ma mb hda hdb hb8
    go_upto_region 9 with fail
    rw [← HW.out]
    clear HW
    obtain ⟨r0, r1, r2, r3, r4, r5, r6, r7⟩ := HXD.out.cells
    obtain ⟨t0, t1, t2, t3, t4, t5, t6, t7⟩ := HXE.out.cells
    have q5 := HXn.out.cells.2.2.2.2.2.1
    go_wp2_with fail
    refine (HWE.out akD avD acD ckD cvD ccD akE avE acE ckE cvE ccE _ HYD.out HYE.out).mono ?_
    rintro e w9 ⟨rfl, hb9⟩
    clear q5
    clear r0 r1 r2 r3 r4 r5 r6 r7 t0 t1 t2 t3 t4 t5 t6 t7
    replace HXn := Lib.hid (HXn.out.below hb9)
    replace HYn := Lib.hid (HYn.out.keep hb9)
    replace HXA := Lib.hid (HXA.out.below hb9)
    replace HYA := Lib.hid (HYA.out.keep hb9)
    replace HXB := Lib.hid (HXB.out.below hb9)
    replace HYB := Lib.hid (HYB.out.keep hb9)
    replace HXD := Lib.hid (HXD.out.below hb9)
    replace HYD := Lib.hid (HYD.out.keep hb9)
    replace HXE := Lib.hid (HXE.out.below hb9)
    replace HYE := Lib.hid (HYE.out.keep hb9)
    replace HE := Lib.hid (HE.out.trans (hb9.mono HE.out.size))
    clear hb9
    obtain ⟨r0, r1, r2, r3, r4, r5, r6, r7⟩ := HXD.out.cells
    obtain ⟨t0, t1, t2, t3, t4, t5, t6, t7⟩ := HXA.out.cells
    go_wp2_with fail
    refine (sameN pa akD avD acD ckD cvD ccD akA avA acA ckA cvA ccA _ HYD.out HYA.out).mono ?_
    rintro e w10 ⟨rfl, hb10⟩
    clear r0 r1 r2 r3 r4 r5 r6 r7 t0 t1 t2 t3 t4 t5 t6 t7
    replace HXn := Lib.hid (HXn.out.below hb10)
    replace HYn := Lib.hid (HYn.out.keep hb10)
    replace HXA := Lib.hid (HXA.out.below hb10)
    replace HYA := Lib.hid (HYA.out.keep hb10)
    replace HXB := Lib.hid (HXB.out.below hb10)
    replace HYB := Lib.hid (HYB.out.keep hb10)
    replace HXD := Lib.hid (HXD.out.below hb10)
    replace HYD := Lib.hid (HYD.out.keep hb10)
    replace HXE := Lib.hid (HXE.out.below hb10)
    replace HYE := Lib.hid (HYE.out.keep hb10)
    replace HE := Lib.hid (HE.out.trans (hb10.mono HE.out.size))
    clear hb10
    obtain ⟨r0, r1, r2, r3, r4, r5, r6, r7⟩ := HXE.out.cells
    obtain ⟨t0, t1, t2, t3, t4, t5, t6, t7⟩ := HXB.out.cells
    go_wp2_with fail
    refine (sameN pb akE avE acE ckE cvE ccE akB avB acB ckB cvB ccB _ HYE.out HYB.out).mono ?_
    rintro e w11 ⟨rfl, hb11⟩
    clear r0 r1 r2 r3 r4 r5 r6 r7 t0 t1 t2 t3 t4 t5 t6 t7
    replace HXn := Lib.hid (HXn.out.below hb11)
    replace HYn := Lib.hid (HYn.out.keep hb11)
    replace HXA := Lib.hid (HXA.out.below hb11)
    replace HYA := Lib.hid (HYA.out.keep hb11)
    replace HXB := Lib.hid (HXB.out.below hb11)
    replace HYB := Lib.hid (HYB.out.keep hb11)
    replace HXD := Lib.hid (HXD.out.below hb11)
    replace HYD := Lib.hid (HYD.out.keep hb11)
    replace HXE := Lib.hid (HXE.out.below hb11)
    replace HYE := Lib.hid (HYE.out.keep hb11)
    replace HE := Lib.hid (HE.out.trans (hb11.mono HE.out.size))
    clear hb11 HXA HYA HXB HYB HXD HYD HXE HYE HMG HEV HWH HWE
    obtain ⟨q0, q1, q2, q3, q4, q5, q6, q7⟩ := HXn.out.cells
    go_wp2_with fail
    refine (HBU.out _ HYn.out).mono ?_
    rintro e w20 ⟨akP, avP, acP, akQ, avQ, acQ, ckP, cvP, ccP, ckQ, cvQ, ccQ, rfl, hda, hdb, hb20, _⟩
    clear q0 q1 q2 q3 q4 q5 q6 q7
    cases c with
    | false =>
      replace HXn := Lib.hid (HXn.out.below hb20)
      replace HYn := Lib.hid (HYn.out.keep hb20)
      replace HE := Lib.hid (HE.out.trans (hb20.mono HE.out.size))
      obtain ⟨ma, mb, hx⟩ := boxes2 w20 #[.int .i64 pc.lv, .string pc.lo, .string pc.hi, .bool pc.la, .int .i64 pc.nx, .slice akP pc.ks.length ckP, .slice avP pc.vs.length cvP, .slice acP pc.cs.length ccP] #[.int .i64 pd.lv, .string pd.lo, .string pd.hi, .bool pd.la, .int .i64 pd.nx, .slice akQ pd.ks.length ckQ, .slice avQ pd.vs.length cvQ, .slice acQ pd.cs.length ccQ]
      obtain ⟨W20, hW⟩ : ∃ W, W = (w20.alloc (.cells #[.int .i64 pc.lv, .string pc.lo, .string pc.hi, .bool pc.la, .int .i64 pc.nx, .slice akP pc.ks.length ckP, .slice avP pc.vs.length cvP, .slice acP pc.cs.length ccP] 26)).alloc (.cells #[.int .i64 pd.lv, .string pd.lo, .string pd.hi, .bool pd.la, .int .i64 pd.nx, .slice akQ pd.ks.length ckQ, .slice avQ pd.vs.length cvQ, .slice acQ pd.cs.length ccQ] 26) := ⟨_, rfl⟩
      rw [← hW] at ma mb hx
      replace HXn := Lib.hid (HXn.out.below hx)
      replace HYn := Lib.hid (HYn.out.keep hx)
      replace HE := Lib.hid (HE.out.trans (hx.mono HE.out.size))
      have HXP := Lib.hid ma
      have HXQ := Lib.hid mb
      have HYP := Lib.hid (hda.keep hx)
      have HYQ := Lib.hid (hdb.keep hx)
      have HW := Lib.hid hW
      clear hW hx ma mb hda hdb hb20
      go_upto_region 12 with fail
      rw [← HW.out]
      clear HW
      go_wp2_with fail
      refine (HLV.out _).mono ?_
      rintro e wl ⟨rfl, hbl⟩
      have HBL := Lib.hid (HE.out.trans (hbl.mono HE.out.size))
      clear hbl
      go_wp2
      go_ret
      exact ⟨rfl, HBL.out⟩
    | true =>
      replace HXn := Lib.hid (HXn.out.below hb20)
      replace HYn := Lib.hid (HYn.out.keep hb20)
      replace HE := Lib.hid (HE.out.trans (hb20.mono HE.out.size))
      obtain ⟨ma, mb, hx⟩ := boxes2 w20 #[.int .i64 pc.lv, .string pc.lo, .string pc.hi, .bool pc.la, .int .i64 pc.nx, .slice akP pc.ks.length ckP, .slice avP pc.vs.length cvP, .slice acP pc.cs.length ccP] #[.int .i64 pd.lv, .string pd.lo, .string pd.hi, .bool pd.la, .int .i64 pd.nx, .slice akQ pd.ks.length ckQ, .slice avQ pd.vs.length cvQ, .slice acQ pd.cs.length ccQ]
      obtain ⟨W20, hW⟩ : ∃ W, W = (w20.alloc (.cells #[.int .i64 pc.lv, .string pc.lo, .string pc.hi, .bool pc.la, .int .i64 pc.nx, .slice akP pc.ks.length ckP, .slice avP pc.vs.length cvP, .slice acP pc.cs.length ccP] 26)).alloc (.cells #[.int .i64 pd.lv, .string pd.lo, .string pd.hi, .bool pd.la, .int .i64 pd.nx, .slice akQ pd.ks.length ckQ, .slice avQ pd.vs.length cvQ, .slice acQ pd.cs.length ccQ] 26) := ⟨_, rfl⟩
      rw [← hW] at ma mb hx
      replace HXn := Lib.hid (HXn.out.below hx)
      replace HYn := Lib.hid (HYn.out.keep hx)
      replace HE := Lib.hid (HE.out.trans (hx.mono HE.out.size))
      have HXP := Lib.hid ma
      have HXQ := Lib.hid mb
      have HYP := Lib.hid (hda.keep hx)
      have HYQ := Lib.hid (hdb.keep hx)
      have HW := Lib.hid hW
      clear hW hx ma mb hda hdb hb20
      go_upto_region 12 with fail
      rw [← HW.out]
      clear HW
      obtain ⟨hs1, hs2, hbr, hla, hlv, hsum, hdif, hnx, hin, hkp, hkq⟩ := HPC.out (by first | rfl | trivial)
      have HS1 := Lib.hid hs1
      have HS2 := Lib.hid hs2
      have HKP := Lib.hid hkp
      have HKQ := Lib.hid hkq
      have HIN := Lib.hid hin
      have hnx1 : (pc.nx == cell) = true := by rw [beq_iff_eq]; exact hnx
      have hnx2 : (pc.nx != cell) = false := by rw [bne_eq_false_iff_eq]; exact hnx
      have HWH := Lib.hid (wholeN pc pd akP avP acP ckP cvP ccP akQ avQ acQ ckQ cvQ ccQ (n.ks.length + 1) _ HYP.out HYQ.out hs1 hs2 hbr hla hlv hsum hdif)
      rw [show (((n.ks.length + 1 : Nat)) : Int) = (n.ks.length : Int) + 1 from rfl] at HWH
      clear hs1 hs2 hbr hla hlv hsum hdif hnx hkp hkq hin HPC
      obtain ⟨q0, q1, q2, q3, q4, q5, q6, q7⟩ := HXn.out.cells
      obtain ⟨r0, r1, r2, r3, r4, r5, r6, r7⟩ := HXP.out.cells
      obtain ⟨t0, t1, t2, t3, t4, t5, t6, t7⟩ := HXQ.out.cells
      clear q0 q1 q2 q3 q4 q6 q7
      go_wp2_with fail
      refine (HWH.out).mono ?_
      rintro e w21 ⟨rfl, hb21⟩
      clear q5 HWH
      clear r0 r1 r2 r3 r4 r5 r6 r7 t0 t1 t2 t3 t4 t5 t6 t7
      replace HXn := Lib.hid (HXn.out.below hb21)
      replace HYn := Lib.hid (HYn.out.keep hb21)
      replace HXP := Lib.hid (HXP.out.below hb21)
      replace HYP := Lib.hid (HYP.out.keep hb21)
      replace HXQ := Lib.hid (HXQ.out.below hb21)
      replace HYQ := Lib.hid (HYQ.out.keep hb21)
      replace HE := Lib.hid (HE.out.trans (hb21.mono HE.out.size))
      clear hb21
      obtain ⟨r0, r1, r2, r3, r4, r5, r6, r7⟩ := HXP.out.cells
      have HK1 := Lib.hid (kidN pc akP avP acP ckP cvP ccP low kid _ HYP.out HS1.out HIN.out.1 hks HKP.out)
      go_wp2_with fail
      refine (HK1.out).mono ?_
      rintro e w22 ⟨x1, rr1, rfl, hk1, hb22⟩
      clear r0 r1 r2 r3 r4 r5 r6 r7
      replace HXn := Lib.hid (HXn.out.below hb22)
      replace HYn := Lib.hid (HYn.out.keep hb22)
      replace HXP := Lib.hid (HXP.out.below hb22)
      replace HYP := Lib.hid (HYP.out.keep hb22)
      replace HXQ := Lib.hid (HXQ.out.below hb22)
      replace HYQ := Lib.hid (HYQ.out.keep hb22)
      replace HE := Lib.hid (HE.out.trans (hb22.mono HE.out.size))
      clear hb22 HK1
      have HK1 := Lib.hid hk1
      clear hk1
      obtain ⟨t0, t1, t2, t3, t4, t5, t6, t7⟩ := HXQ.out.cells
      have HK2 := Lib.hid (kidN pd akQ avQ acQ ckQ cvQ ccQ low kid _ HYQ.out HS2.out HIN.out.2 hks HKQ.out)
      go_wp2_with fail
      refine (HK2.out).mono ?_
      rintro e w23 ⟨x2, rr2, rfl, hk2, hb23⟩
      clear t0 t1 t2 t3 t4 t5 t6 t7
      replace HXn := Lib.hid (HXn.out.below hb23)
      replace HYn := Lib.hid (HYn.out.keep hb23)
      replace HXP := Lib.hid (HXP.out.below hb23)
      replace HYP := Lib.hid (HYP.out.keep hb23)
      replace HXQ := Lib.hid (HXQ.out.below hb23)
      replace HYQ := Lib.hid (HYQ.out.keep hb23)
      replace HE := Lib.hid (HE.out.trans (hb23.mono HE.out.size))
      clear hb23 HK2
      have HK2 := Lib.hid hk2
      clear hk2
      have HC1 := Lib.hid (fun W => coversN pc akP avP acP ckP cvP ccP low W HS1.out hks)
      have HC2 := Lib.hid (fun W => coversN pd akQ avQ acQ ckQ cvQ ccQ low W HS2.out hks)
      generalize insideB pc.lo.data.toList pc.hi.data.toList pc.la low.data.toList = cp at *
      generalize insideB pd.lo.data.toList pd.hi.data.toList pd.la low.data.toList = cq at *
      cases cp with
      | true =>
        obtain ⟨e1, e2⟩ := HK1.out (by first | rfl | trivial)
        subst e1; subst e2
        clear HK1 HKP
        obtain ⟨r0, r1, r2, r3, r4, r5, r6, r7⟩ := HXP.out.cells
        go_wp2_with fail
        refine (HC1.out _).mono ?_
        rintro e w24 ⟨rfl, hb24⟩
        clear r0 r1 r2 r3 r4 r5 r6 r7
        replace HXn := Lib.hid (HXn.out.below hb24)
        replace HYn := Lib.hid (HYn.out.keep hb24)
        replace HXP := Lib.hid (HXP.out.below hb24)
        replace HYP := Lib.hid (HYP.out.keep hb24)
        replace HXQ := Lib.hid (HXQ.out.below hb24)
        replace HYQ := Lib.hid (HYQ.out.keep hb24)
        replace HE := Lib.hid (HE.out.trans (hb24.mono HE.out.size))
        clear hb24 HC1
        cases cq with
        | true =>
          obtain ⟨e3, e4⟩ := HK2.out (by first | rfl | trivial)
          subst e3; subst e4
          clear HK2 HKQ
          obtain ⟨t0, t1, t2, t3, t4, t5, t6, t7⟩ := HXQ.out.cells
          go_wp2_with fail
          refine (HC2.out _).mono ?_
          rintro e w25 ⟨rfl, hb25⟩
          clear t0 t1 t2 t3 t4 t5 t6 t7
          replace HXn := Lib.hid (HXn.out.below hb25)
          replace HYn := Lib.hid (HYn.out.keep hb25)
          replace HXP := Lib.hid (HXP.out.below hb25)
          replace HYP := Lib.hid (HYP.out.keep hb25)
          replace HXQ := Lib.hid (HXQ.out.below hb25)
          replace HYQ := Lib.hid (HYQ.out.keep hb25)
          replace HE := Lib.hid (HE.out.trans (hb25.mono HE.out.size))
          clear hb25 HC2
          go_wp2_with fail
          refine (HLV.out _).mono ?_
          rintro e wl ⟨rfl, hbl⟩
          have HBL := Lib.hid (HE.out.trans (hbl.mono HE.out.size))
          clear hbl
          go_wp2
          go_ret
          exact ⟨rfl, HBL.out⟩
        | false =>
          clear HK2 HKQ
          obtain ⟨t0, t1, t2, t3, t4, t5, t6, t7⟩ := HXQ.out.cells
          go_wp2_with fail
          refine (HC2.out _).mono ?_
          rintro e w25 ⟨rfl, hb25⟩
          clear t0 t1 t2 t3 t4 t5 t6 t7
          replace HXn := Lib.hid (HXn.out.below hb25)
          replace HYn := Lib.hid (HYn.out.keep hb25)
          replace HXP := Lib.hid (HXP.out.below hb25)
          replace HYP := Lib.hid (HYP.out.keep hb25)
          replace HXQ := Lib.hid (HXQ.out.below hb25)
          replace HYQ := Lib.hid (HYQ.out.keep hb25)
          replace HE := Lib.hid (HE.out.trans (hb25.mono HE.out.size))
          clear hb25 HC2
          go_wp2_with fail
          refine (HLV.out _).mono ?_
          rintro e wl ⟨rfl, hbl⟩
          have HBL := Lib.hid (HE.out.trans (hbl.mono HE.out.size))
          clear hbl
          go_wp2
          go_ret
          exact ⟨rfl, HBL.out⟩
      | false =>
        clear HK1 HKP
        obtain ⟨r0, r1, r2, r3, r4, r5, r6, r7⟩ := HXP.out.cells
        go_wp2_with fail
        refine (HC1.out _).mono ?_
        rintro e w24 ⟨rfl, hb24⟩
        clear r0 r1 r2 r3 r4 r5 r6 r7
        replace HXn := Lib.hid (HXn.out.below hb24)
        replace HYn := Lib.hid (HYn.out.keep hb24)
        replace HXP := Lib.hid (HXP.out.below hb24)
        replace HYP := Lib.hid (HYP.out.keep hb24)
        replace HXQ := Lib.hid (HXQ.out.below hb24)
        replace HYQ := Lib.hid (HYQ.out.keep hb24)
        replace HE := Lib.hid (HE.out.trans (hb24.mono HE.out.size))
        clear hb24 HC1
        cases cq with
        | true =>
          obtain ⟨e3, e4⟩ := HK2.out (by first | rfl | trivial)
          subst e3; subst e4
          clear HK2 HKQ
          obtain ⟨t0, t1, t2, t3, t4, t5, t6, t7⟩ := HXQ.out.cells
          go_wp2_with fail
          refine (HC2.out _).mono ?_
          rintro e w25 ⟨rfl, hb25⟩
          clear t0 t1 t2 t3 t4 t5 t6 t7
          replace HXn := Lib.hid (HXn.out.below hb25)
          replace HYn := Lib.hid (HYn.out.keep hb25)
          replace HXP := Lib.hid (HXP.out.below hb25)
          replace HYP := Lib.hid (HYP.out.keep hb25)
          replace HXQ := Lib.hid (HXQ.out.below hb25)
          replace HYQ := Lib.hid (HYQ.out.keep hb25)
          replace HE := Lib.hid (HE.out.trans (hb25.mono HE.out.size))
          clear hb25 HC2
          go_wp2_with fail
          refine (HLV.out _).mono ?_
          rintro e wl ⟨rfl, hbl⟩
          have HBL := Lib.hid (HE.out.trans (hbl.mono HE.out.size))
          clear hbl
          go_wp2
          go_ret
          exact ⟨rfl, HBL.out⟩
        | false =>
          clear HK2 HKQ
          obtain ⟨t0, t1, t2, t3, t4, t5, t6, t7⟩ := HXQ.out.cells
          go_wp2_with fail
          refine (HC2.out _).mono ?_
          rintro e w25 ⟨rfl, hb25⟩
          clear t0 t1 t2 t3 t4 t5 t6 t7
          replace HXn := Lib.hid (HXn.out.below hb25)
          replace HYn := Lib.hid (HYn.out.keep hb25)
          replace HXP := Lib.hid (HXP.out.below hb25)
          replace HYP := Lib.hid (HYP.out.keep hb25)
          replace HXQ := Lib.hid (HXQ.out.below hb25)
          replace HYQ := Lib.hid (HYQ.out.keep hb25)
          replace HE := Lib.hid (HE.out.trans (hb25.mono HE.out.size))
          clear hb25 HC2
          go_wp2_with fail
          refine (HLV.out _).mono ?_
          rintro e wl ⟨rfl, hbl⟩
          have HBL := Lib.hid (HE.out.trans (hbl.mono HE.out.size))
          clear hbl
          go_wp2
          go_ret
          exact ⟨rfl, HBL.out⟩
end Go.Proofs.Ytlcnnnljdffbmaa
