/- halve.mayHave: may a node have an entry more, if there is room? Condition: rising keys, sizes that fit. halve.Burst: an inner node with an entry more, as two, or none. Condition: sizes that fit. -/
import Derived.Test.YtlcnnnljdffbmaaHalveBase
import Derived.Test.YtlcnnnljdffbmaaNodeKids
import Derived.Test.YtlcnnnljdffbmaaFind2
import Derived.Test.YtlcnnnljdffbmaaHalveTwo
import Derived.Test.YtlcnnnljdffbmaaAddStr
import Derived.Test.YtlcnnnljdffbmaaAddInt
import Derived.Test.YtlcnnnljdffbmaaInnerPost
namespace Go.Proofs.Ytlcnnnljdffbmaa
open Go.RowKit

/-- What a new entry must be. -/
structure Nod.MayP (n : Nod) (low : ByteArray) (kid : Int) : Prop where
  key : keyB low = true
  inn : insideB n.lo.data.toList n.hi.data.toList n.la low.data.toList = true
  new : ¬ thereF n.ks low
  cell : cellB kid = true
  kid : ∀ i, i < n.cs.length → ni n.cs i ≠ kid
theorem check_key (k : ByteArray) : ∃ c : Int, (if k.size = 0 ∨ 64 < k.size then (2 : Int) else 0) = c ∧ (c == 0) = keyB k := by
  refine ⟨_, rfl, ?_⟩
  have hb := keyB_iff k
  by_cases h : k.size = 0 ∨ 64 < k.size
  · rw [if_pos h, Bool.eq_false_iff.2 (fun g => by have := hb.1 g; omega : ¬ keyB k = true)]; rfl
  · rw [if_neg h, hb.2 (by omega)]; rfl

set_option maxHeartbeats 4000000 in
set_option maxRecDepth 100000 in
theorem mayHave_of (lv nx : Int) (lo hi : ByteArray) (la : Bool) (ak av ac : Option Addr) (ck cv cc : Nat) (ks : List ByteArray) (vs : List Nat) (cs : List Int) (low : ByteArray) (kid : Int) (b : Bool) (w : World) (hN : NdAt w ak av ac ks.length ck vs.length cv cs.length cc ks vs cs) (hf : Fit lo hi ks ks.length vs.length cs.length) (hk : low.size ≤ 140737488355328) (hr : Rises ks) (hb : b = true ↔ Nod.MayP ⟨lv, nx, lo, hi, la, ks, vs, cs⟩ low kid) :
    Calls Try.prog 54 #[.agg #[.int .i64 lv, .string lo, .string hi, .bool la, .int .i64 nx, .slice ak ks.length ck, .slice av vs.length cv, .slice ac cs.length cc], .string low, .int .i64 kid] w fun e w' => e = .returned (.bool b) ∧ Below w.heap.size w w' := by
  have HB := Lib.hid (boxed_below w (.cells #[.int .i64 lv, .string lo, .string hi, .bool la, .int .i64 nx, .slice ak ks.length ck, .slice av vs.length cv, .slice ac cs.length cc] 26))
  have HNB := Lib.hid (NB.new w #[.int .i64 lv, .string lo, .string hi, .bool la, .int .i64 nx, .slice ak ks.length ck, .slice av vs.length cv, .slice ac cs.length cc])
  have HFI := Lib.hid (fun W (h : Below w.heap.size w W) => find_any (.slice ak ks.length ck) low ks W (hN.keep h).k hk hf.ks (by have := hf.n; omega) hr)
  have HCK := Lib.hid (fun W => check_any low W)
  obtain ⟨c, hc, hc0⟩ := check_key low
  rw [hc] at HCK
  have HCV := Lib.hid (fun W => covers_any lv nx lo hi la ak av ac ks.length ck vs.length cv cs.length cc low W hf.lo hf.hi hk)
  have HCE := Lib.hid (fun W => hcell_any kid W)
  have HCO := Lib.hid (fun W (h : Below w.heap.size w W) => contains_any ac cs.length cc cs kid W (hN.keep h).c)
  have HBB := Lib.hid hb
  have HTH : Hid (∀ at_ : Nat, ∀ is : Bool, Edge ks.length at_ (pFind ks low) → (is = true ↔ at_ < ks.length ∧ nth ks at_ = low) → (is = true ↔ thereF ks low)) := Lib.hid (fun at_ is hE hi => by
    obtain rfl : at_ = placeF ks low := hE.one (edge_place hr low)
    exact hi)
  obtain ⟨q0, q1, q2, q3, q4, q5, q6, q7⟩ := HNB.out.cells
  clear hN hf hk hr hb hc
  go_enter Try.func54, Try.ntmps54
  go_wp2_with fail
  refine (HFI.out _ HB.out).mono ?_
  rintro e w2 ⟨at_, is, rfl, hE, hi, hb2⟩
  have HIS := Lib.hid (HTH.out at_ is hE hi)
  have HB2 := Lib.hid (HB.out.trans (hb2.mono HB.out.size))
  have HN2 := Lib.hid (HNB.out.below hb2)
  clear hE hi hb2 q0 q1 q2 q3 q4 q5 q6 q7 HFI HTH
  obtain ⟨q0, q1, q2, q3, q4, q5, q6, q7⟩ := HN2.out.cells
  go_wp2_with fail
  refine (HCK.out _).mono ?_
  rintro e wx ⟨rfl, rfl⟩
  cases hkb : keyB low with
  | false =>
    have HF : Hid (b = false) := Lib.hid (bool_no HBB.out (fun h => by have := h.key; rw [hkb] at this; cases this))
    rw [hkb] at hc0
    go_wp2
    go_ret
    exact ⟨by rw [HF.out]; rfl, HB2.out⟩
  | true =>
  have HKB := Lib.hid hkb
  rw [hkb] at hc0
  clear hkb
  go_wp2_with fail
  refine (HCV.out _).mono ?_
  rintro e w3 ⟨rfl, hb3⟩
  have HB3 := Lib.hid (HB2.out.trans (hb3.mono HB2.out.size))
  have HN3 := Lib.hid (HN2.out.below hb3)
  clear hb3 q0 q1 q2 q3 q4 q5 q6 q7 HCV
  obtain ⟨q0, q1, q2, q3, q4, q5, q6, q7⟩ := HN3.out.cells
  cases hib : insideB lo.data.toList hi.data.toList la low.data.toList with
  | false =>
    have HF : Hid (b = false) := Lib.hid (bool_no HBB.out (fun h => by have h2 := h.inn; simp only at h2; rw [hib] at h2; cases h2))
    go_wp2
    go_ret
    exact ⟨by rw [HF.out]; rfl, HB3.out⟩
  | true =>
  have HIB := Lib.hid hib
  clear hib
  cases is with
  | true =>
    have HF : Hid (b = false) := Lib.hid (bool_no HBB.out (fun h => h.new (HIS.out.1 rfl)))
    go_wp2
    go_ret
    exact ⟨by rw [HF.out]; rfl, HB3.out⟩
  | false =>
  have HNT : Hid (¬ thereF ks low) := Lib.hid (fun h => by have := HIS.out.2 h; cases this)
  go_wp2_with fail
  refine (HCE.out _).mono ?_
  rintro e wx ⟨rfl, rfl⟩
  cases hcb : cellB kid with
  | false =>
    have HF : Hid (b = false) := Lib.hid (bool_no HBB.out (fun h => by have := h.cell; rw [hcb] at this; cases this))
    go_wp2
    go_ret
    exact ⟨by rw [HF.out]; rfl, HB3.out⟩
  | true =>
  have HCB := Lib.hid hcb
  clear hcb
  go_wp2_with fail
  refine (HCO.out _ HB3.out).mono ?_
  rintro e wx ⟨r, rfl, hr, rfl⟩
  have HR := Lib.hid hr
  clear hr
  cases r with
  | true =>
    have HF : Hid (b = false) := Lib.hid (bool_no HBB.out (fun h => by
      obtain ⟨j, hj, e⟩ := HR.out.1 rfl
      exact h.kid j hj e))
    go_wp2
    go_ret
    exact ⟨by rw [HF.out]; rfl, HB3.out⟩
  | false =>
    have HT : Hid (b = true) := Lib.hid (HBB.out.2 ⟨HKB.out, HIB.out, HNT.out, HCB.out, fun i hi e => by have := HR.out.2 ⟨i, hi, e⟩; cases this⟩)
    go_wp2
    go_ret
    exact ⟨by rw [HT.out]; rfl, HB3.out⟩
end Go.Proofs.Ytlcnnnljdffbmaa

namespace Go.Proofs.Ytlcnnnljdffbmaa
open Go.RowKit

def Nod.BurstP (n : Nod) (low : ByteArray) (kid cell : Int) : Prop := n.Inner ∧ cellB cell = true ∧ n.MayP low kid
theorem made_map {w w' : World} {t : TypeId} {v : Value} {xs ys : List Value} (h : Made w w' t v xs) (e : xs = ys) : ∃ g, v = .slice (some ⟨g, 0, none⟩) ys.length ys.length ∧ w.heap.size ≤ g ∧ Whole w' t g ys ∧ Below w.heap.size w w' := by
  subst e; exact h
theorem Whole.rd_map {α : Type} {w : World} {e : TypeId} {g : Nat} {f : α → Value} {xs : List α} (h : Whole w e g (xs.map f)) (hl : xs.length ≤ 9223372036854775807) : Rd w (.slice (some ⟨g, 0, none⟩) xs.length xs.length) (xs.map f) := by
  have := Whole.rd h (by rw [List.length_map]; exact hl)
  rw [List.length_map] at this
  exact this
theorem NB.whole_far {W : World} {A : Nat} {cs : Array Value} (h : NB W A cs) {t : TypeId} {g : Nat} {ys : List Value} (h' : Whole W t g ys) (hne : 26 ≠ t) (i : Nat) (u : Value) : Whole (W.setCell ⟨A, i, none⟩ u) t g ys := by
  unfold Whole
  rw [Below.heap_setCell W ⟨A, i, none⟩ u g (fun e => h.other h' hne e.symm)]
  exact h'
theorem PartsAt.setN {w wx : World} {cN cL cR : Array Value} (h : PartsAt w wx cN cL cR) (i : Nat) (u : Value) : PartsAt w (wx.setCell ⟨w.heap.size, i, none⟩ u) (cN.setIfInBounds i u) cL cR :=
  ⟨h.n.set i u, h.l.far (p := ⟨w.heap.size, i, none⟩) (by show w.heap.size + 1 ≠ w.heap.size; omega) u, h.r.far (p := ⟨w.heap.size, i, none⟩) (by show w.heap.size + 2 ≠ w.heap.size; omega) u, h.below.setCell (Nat.le_refl _) u⟩

set_option maxHeartbeats 8000000 in
set_option maxRecDepth 100000 in
theorem burst_of (lv nx : Int) (lo hi : ByteArray) (la : Bool) (ak av ac : Option Addr) (ck cv cc : Nat) (ks : List ByteArray) (vs : List Nat) (cs : List Int) (low : ByteArray) (kid cell : Int) (b : Bool) (w : World) (hN : NdAt w ak av ac ks.length ck vs.length cv cs.length cc ks vs cs) (hf : Fit lo hi ks ks.length vs.length cs.length) (hk : low.size ≤ 140737488355328) (hb : b = true ↔ Nod.BurstP ⟨lv, nx, lo, hi, la, ks, vs, cs⟩ low kid cell) :
    Calls Try.prog 14 #[.agg #[.int .i64 lv, .string lo, .string hi, .bool la, .int .i64 nx, .slice ak ks.length ck, .slice av vs.length cv, .slice ac cs.length cc], .string low, .int .i64 kid, .int .i64 cell] w fun e w' => GaveTwo w w' e b (Nod.or b (Nod.left (Nod.post ⟨lv, nx, lo, hi, la, ks, vs, cs⟩ low kid) cell)) (Nod.or b (Nod.right (Nod.post ⟨lv, nx, lo, hi, la, ks, vs, cs⟩ low kid))) := by
  obtain ⟨w1, hw1, n1, n2, n3, hB, hsz⟩ := boxes3 w #[.int .i64 lv, .string lo, .string hi, .bool la, .int .i64 nx, .slice ak ks.length ck, .slice av vs.length cv, .slice ac cs.length cc] #[.int .i64 0, .string ⟨#[]⟩, .string ⟨#[]⟩, .bool false, .int .i64 0, .slice none 0 0, .slice none 0 0, .slice none 0 0] #[.int .i64 0, .string ⟨#[]⟩, .string ⟨#[]⟩, .bool false, .int .i64 0, .slice none 0 0, .slice none 0 0, .slice none 0 0]
  have HW1 := Lib.hid hw1
  have HSZ := Lib.hid hsz
  have HP1 : Hid (PartsAt w w1 #[.int .i64 lv, .string lo, .string hi, .bool la, .int .i64 nx, .slice ak ks.length ck, .slice av vs.length cv, .slice ac cs.length cc] #[.int .i64 0, .string ⟨#[]⟩, .string ⟨#[]⟩, .bool false, .int .i64 0, .slice none 0 0, .slice none 0 0, .slice none 0 0] #[.int .i64 0, .string ⟨#[]⟩, .string ⟨#[]⟩, .bool false, .int .i64 0, .slice none 0 0, .slice none 0 0, .slice none 0 0]) := Lib.hid ⟨n1, n2, n3, hB⟩
  obtain ⟨l, hl⟩ := bool_or (SoundP lv nx lo hi la ks.length vs.length cs.length ks cs 64)
  have HIS := Lib.hid (hsound_of lv nx lo hi la ak av ac ks.length ck vs.length cv cs.length cc ks vs cs l w1 (hN.keep hB) hf hl)
  have HCE := Lib.hid (fun W => hcell_any cell W)
  have HND := Lib.hid hN
  have HFT := Lib.hid hf
  have HLL := Lib.hid hl
  have HBB := Lib.hid hb
  have HKK := Lib.hid hk
  obtain ⟨q0, q1, q2, q3, q4, q5, q6, q7⟩ := n1.cells
  clear hN hf hb hl n1 n2 n3 hB hw1 hsz hk
  go_enter Try.func14, Try.ntmps14
  go_wp2_with fail
  rw [← HW1.out]
  refine HIS.out.mono ?_
  rintro e w2 ⟨rfl, hb2⟩
  have HP2 := Lib.hid (HP1.out.keep hb2)
  clear hb2 q0 q1 q2 q3 q4 q5 q6 q7 HIS HW1
  cases l with
  | false =>
    have HF : Hid (b = false) := Lib.hid (bool_no HBB.out (fun h => by have := HLL.out.2 h.1.2; cases this))
    obtain ⟨t0, t1, t2, t3, t4, t5, t6, t7⟩ := HP2.out.l.cells
    obtain ⟨u0, u1, u2, u3, u4, u5, u6, u7⟩ := HP2.out.r.cells
    have f0 := HP2.out.l.frozen 0
    have f1 := HP2.out.l.frozen 1
    have f2 := HP2.out.l.frozen 2
    have f3 := HP2.out.l.frozen 3
    have f4 := HP2.out.l.frozen 4
    have f5 := HP2.out.l.frozen 5
    have f6 := HP2.out.l.frozen 6
    have f7 := HP2.out.l.frozen 7
    have g0 := HP2.out.r.frozen 0
    have g1 := HP2.out.r.frozen 1
    have g2 := HP2.out.r.frozen 2
    have g3 := HP2.out.r.frozen 3
    have g4 := HP2.out.r.frozen 4
    have g5 := HP2.out.r.frozen 5
    have g6 := HP2.out.r.frozen 6
    have g7 := HP2.out.r.frozen 7
    go_wp2
    refine bodyPost_ret (v := .tuple #[.agg #[.int .i64 0, .string ⟨#[]⟩, .string ⟨#[]⟩, .bool false, .int .i64 0, .slice none 0 0, .slice none 0 0, .slice none 0 0], .agg #[.int .i64 0, .string ⟨#[]⟩, .string ⟨#[]⟩, .bool false, .int .i64 0, .slice none 0 0, .slice none 0 0, .slice none 0 0], .bool false]) (by simp [results, Try.results14, go_sem, *]) rfl ?_
    rw [HF.out]
    exact gaveTwo_none (wr5_below (w.heap.size + 2) w.heap.size (by omega) [(0, _), (1, _), (2, _), (3, _), (4, _), (5, _), (6, _), (7, _)] w _ (wr5_below (w.heap.size + 1) w.heap.size (by omega) [(0, _), (1, _), (2, _), (3, _), (4, _), (5, _), (6, _), (7, _)] w _ HP2.out.below))
  | true =>
  have HS := Lib.hid (HLL.out.1 rfl)
  obtain ⟨q0, q1, q2, q3, q4, q5, q6, q7⟩ := HP2.out.n.cells
  by_cases h0 : lv = 0
  · have h0b : (lv == 0) = true := by rw [beq_iff_eq]; exact h0
    have HF : Hid (b = false) := Lib.hid (bool_no HBB.out (fun h => by have := h.1.1; simp only at this; omega))
    obtain ⟨t0, t1, t2, t3, t4, t5, t6, t7⟩ := HP2.out.l.cells
    obtain ⟨u0, u1, u2, u3, u4, u5, u6, u7⟩ := HP2.out.r.cells
    have f0 := HP2.out.l.frozen 0
    have f1 := HP2.out.l.frozen 1
    have f2 := HP2.out.l.frozen 2
    have f3 := HP2.out.l.frozen 3
    have f4 := HP2.out.l.frozen 4
    have f5 := HP2.out.l.frozen 5
    have f6 := HP2.out.l.frozen 6
    have f7 := HP2.out.l.frozen 7
    have g0 := HP2.out.r.frozen 0
    have g1 := HP2.out.r.frozen 1
    have g2 := HP2.out.r.frozen 2
    have g3 := HP2.out.r.frozen 3
    have g4 := HP2.out.r.frozen 4
    have g5 := HP2.out.r.frozen 5
    have g6 := HP2.out.r.frozen 6
    have g7 := HP2.out.r.frozen 7
    go_wp2
    refine bodyPost_ret (v := .tuple #[.agg #[.int .i64 0, .string ⟨#[]⟩, .string ⟨#[]⟩, .bool false, .int .i64 0, .slice none 0 0, .slice none 0 0, .slice none 0 0], .agg #[.int .i64 0, .string ⟨#[]⟩, .string ⟨#[]⟩, .bool false, .int .i64 0, .slice none 0 0, .slice none 0 0, .slice none 0 0], .bool false]) (by simp [results, Try.results14, go_sem, *]) rfl ?_
    rw [HF.out]
    exact gaveTwo_none (wr5_below (w.heap.size + 2) w.heap.size (by omega) [(0, _), (1, _), (2, _), (3, _), (4, _), (5, _), (6, _), (7, _)] w _ (wr5_below (w.heap.size + 1) w.heap.size (by omega) [(0, _), (1, _), (2, _), (3, _), (4, _), (5, _), (6, _), (7, _)] w _ HP2.out.below))
  have h0b : (lv == 0) = false := beq_eq_false_iff_ne.2 h0
  go_wp2_with fail
  refine (HCE.out _).mono ?_
  rintro e wx ⟨rfl, rfl⟩
  cases hcb : cellB cell with
  | false =>
    have HF : Hid (b = false) := Lib.hid (bool_no HBB.out (fun h => by have := h.2.1; rw [hcb] at this; cases this))
    obtain ⟨t0, t1, t2, t3, t4, t5, t6, t7⟩ := HP2.out.l.cells
    obtain ⟨u0, u1, u2, u3, u4, u5, u6, u7⟩ := HP2.out.r.cells
    have f0 := HP2.out.l.frozen 0
    have f1 := HP2.out.l.frozen 1
    have f2 := HP2.out.l.frozen 2
    have f3 := HP2.out.l.frozen 3
    have f4 := HP2.out.l.frozen 4
    have f5 := HP2.out.l.frozen 5
    have f6 := HP2.out.l.frozen 6
    have f7 := HP2.out.l.frozen 7
    have g0 := HP2.out.r.frozen 0
    have g1 := HP2.out.r.frozen 1
    have g2 := HP2.out.r.frozen 2
    have g3 := HP2.out.r.frozen 3
    have g4 := HP2.out.r.frozen 4
    have g5 := HP2.out.r.frozen 5
    have g6 := HP2.out.r.frozen 6
    have g7 := HP2.out.r.frozen 7
    go_wp2
    refine bodyPost_ret (v := .tuple #[.agg #[.int .i64 0, .string ⟨#[]⟩, .string ⟨#[]⟩, .bool false, .int .i64 0, .slice none 0 0, .slice none 0 0, .slice none 0 0], .agg #[.int .i64 0, .string ⟨#[]⟩, .string ⟨#[]⟩, .bool false, .int .i64 0, .slice none 0 0, .slice none 0 0, .slice none 0 0], .bool false]) (by simp [results, Try.results14, go_sem, *]) rfl ?_
    rw [HF.out]
    exact gaveTwo_none (wr5_below (w.heap.size + 2) w.heap.size (by omega) [(0, _), (1, _), (2, _), (3, _), (4, _), (5, _), (6, _), (7, _)] w _ (wr5_below (w.heap.size + 1) w.heap.size (by omega) [(0, _), (1, _), (2, _), (3, _), (4, _), (5, _), (6, _), (7, _)] w _ HP2.out.below))
  | true =>
  obtain ⟨m, hm⟩ := bool_or (Nod.MayP ⟨lv, nx, lo, hi, la, ks, vs, cs⟩ low kid)
  have HMM := Lib.hid hm
  have HMH := Lib.hid (mayHave_of lv nx lo hi la ak av ac ck cv cc ks vs cs low kid m w2 (HND.out.keep HP2.out.below) HFT.out HKK.out HS.out.keys.rise hm)
  have HIN : Hid (Nod.Inner ⟨lv, nx, lo, hi, la, ks, vs, cs⟩) := Lib.hid ⟨by have := HS.out.level; simp only; omega, HS.out⟩
  have HCB := Lib.hid hcb
  clear hm hcb
  go_wp2_with fail
  refine HMH.out.mono ?_
  rintro e w3 ⟨rfl, hb3⟩
  have HP3 := Lib.hid (HP2.out.keep hb3)
  clear hb3 q0 q1 q2 q3 q4 q5 q6 q7 HMH
  cases m with
  | false =>
    have HF : Hid (b = false) := Lib.hid (bool_no HBB.out (fun h => by have := HMM.out.2 h.2.2; cases this))
    obtain ⟨t0, t1, t2, t3, t4, t5, t6, t7⟩ := HP3.out.l.cells
    obtain ⟨u0, u1, u2, u3, u4, u5, u6, u7⟩ := HP3.out.r.cells
    have f0 := HP3.out.l.frozen 0
    have f1 := HP3.out.l.frozen 1
    have f2 := HP3.out.l.frozen 2
    have f3 := HP3.out.l.frozen 3
    have f4 := HP3.out.l.frozen 4
    have f5 := HP3.out.l.frozen 5
    have f6 := HP3.out.l.frozen 6
    have f7 := HP3.out.l.frozen 7
    have g0 := HP3.out.r.frozen 0
    have g1 := HP3.out.r.frozen 1
    have g2 := HP3.out.r.frozen 2
    have g3 := HP3.out.r.frozen 3
    have g4 := HP3.out.r.frozen 4
    have g5 := HP3.out.r.frozen 5
    have g6 := HP3.out.r.frozen 6
    have g7 := HP3.out.r.frozen 7
    go_wp2
    refine bodyPost_ret (v := .tuple #[.agg #[.int .i64 0, .string ⟨#[]⟩, .string ⟨#[]⟩, .bool false, .int .i64 0, .slice none 0 0, .slice none 0 0, .slice none 0 0], .agg #[.int .i64 0, .string ⟨#[]⟩, .string ⟨#[]⟩, .bool false, .int .i64 0, .slice none 0 0, .slice none 0 0, .slice none 0 0], .bool false]) (by simp [results, Try.results14, go_sem, *]) rfl ?_
    rw [HF.out]
    exact gaveTwo_none (wr5_below (w.heap.size + 2) w.heap.size (by omega) [(0, _), (1, _), (2, _), (3, _), (4, _), (5, _), (6, _), (7, _)] w _ (wr5_below (w.heap.size + 1) w.heap.size (by omega) [(0, _), (1, _), (2, _), (3, _), (4, _), (5, _), (6, _), (7, _)] w _ HP3.out.below))
  | true =>
  have HM := Lib.hid (HMM.out.1 rfl)
  have HT : Hid (b = true) := Lib.hid (HBB.out.2 ⟨HIN.out, HCB.out, HM.out⟩)
  obtain ⟨e1, e2, e3, e4, e5, e6⟩ := HS.out.entries.inner h0
  have HE := Lib.hid (And.intro e1 (And.intro e2 (And.intro e3 trivial)))
  have HNA := Lib.hid (newAt_of HS.out.keys.rise HM.out.new)
  have HFI := Lib.hid (fun W (h : Below w.heap.size w W) => find_any (.slice ak ks.length ck) low ks W (HND.out.keep h).k HKK.out HFT.out.ks (by have := HFT.out.n; omega) HS.out.keys.rise)
  clear e1 e2 e3 e4 e5 e6
  obtain ⟨q0, q1, q2, q3, q4, q5, q6, q7⟩ := HP3.out.n.cells
  go_wp2_with fail
  refine (HFI.out _ HP3.out.below).mono ?_
  rintro e w4 ⟨at_, is, rfl, hE, hth, hb4⟩
  obtain rfl : at_ = placeF ks low := hE.one (edge_place HS.out.keys.rise low)
  have HP4 := Lib.hid (HP3.out.keep hb4)
  obtain ⟨p, hp⟩ : ∃ p, p = placeF ks low := ⟨_, rfl⟩
  obtain ⟨P, hP⟩ : ∃ P, P = insF ks p low := ⟨_, rfl⟩
  obtain ⟨R, hR⟩ : ∃ R, R = insF cs p kid := ⟨_, rfl⟩
  have hple : p ≤ ks.length := by rw [hp]; exact hE.1
  have HPM : Hid ((ks.map Value.string).take p ++ (.string low) :: (ks.map Value.string).drop p = P.map Value.string) := Lib.hid (by rw [hP, insF_map])
  have HRM : Hid ((cs.map (Value.int .i64)).take p ++ (.int .i64 kid) :: (cs.map (Value.int .i64)).drop p = R.map (Value.int .i64)) := Lib.hid (by rw [hR, insF_map])
  have HPL : Hid (P.length = ks.length + 1 ∧ R.length = ks.length + 1) := Lib.hid ⟨by rw [hP, insF_len hple], by rw [hR, insF_len (by have := HE.out.1; omega), HE.out.1]⟩
  have HAK := Lib.hid (fun W (h : Below w.heap.size w W) => addStr_yes ak ks.length ck p low (ks.map Value.string) W (HND.out.keep h).k (ones_str ks) (by have := HFT.out.n; omega) hple)
  have HAC := Lib.hid (fun W (h : Below w.heap.size w W) => addInt_yes ac cs.length cc p kid (cs.map (Value.int .i64)) W (HND.out.keep h).c (ones_int cs) (by have := HFT.out.n; omega) (by have := HE.out.1; omega))
  have HNO : Hid (Nod.post ⟨lv, nx, lo, hi, la, ks, vs, cs⟩ low kid = ⟨lv, nx, lo, hi, la, P, vs, R⟩) := Lib.hid (by
    have hv : vs = [] := List.eq_nil_of_length_eq_zero HE.out.2.2.1
    rw [hP, hR, hp, hv]; rfl)
  have HPR : Hid (Rises P) := Lib.hid (by rw [hP, hp]; exact rises_ins HS.out.keys.rise HNA.out)
  have HPS : Hid (∀ x ∈ P, x.size ≤ 140737488355328) := Lib.hid (fun x hx => by
    rw [hP] at hx
    unfold insF at hx
    rcases List.mem_append.1 hx with h | h
    · exact HFT.out.ks x (List.mem_of_mem_take h)
    · rcases List.mem_cons.1 h with rfl | h
      · exact HKK.out
      · exact HFT.out.ks x (List.mem_of_mem_drop h))
  rw [← hp]
  clear hE hth hb4 hp hP hR q0 q1 q2 q3 q4 q5 q6 q7 HFI
  obtain ⟨q0, q1, q2, q3, q4, q5, q6, q7⟩ := HP4.out.n.cells
  go_wp2_with fail
  refine (HAK.out _ HP4.out.below).mono ?_
  rintro e w5 ⟨v5, rfl, hm5⟩
  obtain ⟨gP, hv5, hg5, hr5, hb5⟩ := made_map hm5 HPM.out
  rw [List.length_map] at hv5
  subst hv5
  have HP5 := Lib.hid (HP4.out.keep hb5)
  have HRP := Lib.hid hr5
  have HGP := Lib.hid (Nat.le_trans HP4.out.size hg5)
  clear hm5 hg5 hr5 hb5 q0 q1 q2 q3 q4 q5 q6 q7 HAK
  have tq := HP5.out.n.cells
  have fq := HP5.out.n.frozen 5
  obtain ⟨q0, q1, q2, q3, q4, q5, q6, q7⟩ := tq
  go_upto_region 5 with fail
  refine @nameWh (fun W => Code.wp _ _ _ _ W) _ ?_
  intro W5 hW5
  have HM5 : Hid (PartsAt w W5 #[.int .i64 lv, .string lo, .string hi, .bool la, .int .i64 nx, .slice (some ⟨gP, 0, none⟩) P.length P.length, .slice av vs.length cv, .slice ac cs.length cc] #[.int .i64 0, .string ⟨#[]⟩, .string ⟨#[]⟩, .bool false, .int .i64 0, .slice none 0 0, .slice none 0 0, .slice none 0 0] #[.int .i64 0, .string ⟨#[]⟩, .string ⟨#[]⟩, .bool false, .int .i64 0, .slice none 0 0, .slice none 0 0, .slice none 0 0]) := Lib.hid (by rw [hW5]; exact HP5.out.setN 5 (.slice (some ⟨gP, 0, none⟩) P.length P.length))
  have HRP5 := Lib.hid (HP5.out.n.whole_far HRP.out (by decide) 5 (.slice (some ⟨gP, 0, none⟩) P.length P.length))
  rw [← hW5] at HRP5
  clear hW5 fq q0 q1 q2 q3 q4 q5 q6 q7 HP5 HRP
  obtain ⟨q0, q1, q2, q3, q4, q5, q6, q7⟩ := HM5.out.n.cells
  go_wp2_with fail
  refine (HAC.out _ HM5.out.below).mono ?_
  rintro e w6 ⟨v6, rfl, hm6⟩
  obtain ⟨gR, hv6, hg6, hr6, hb6⟩ := made_map hm6 HRM.out
  rw [List.length_map] at hv6
  subst hv6
  have HP6 := Lib.hid (HM5.out.keep hb6)
  have HRP6 := Lib.hid (HRP5.out.keep hb6)
  have HRR := Lib.hid hr6
  clear hm6 hg6 hr6 hb6 q0 q1 q2 q3 q4 q5 q6 q7 HAC HM5 HRP5
  have tq := HP6.out.n.cells
  have fq := HP6.out.n.frozen 7
  obtain ⟨q0, q1, q2, q3, q4, q5, q6, q7⟩ := tq
  go_upto_region 6 with fail
  refine @nameWh (fun W => Code.wp _ _ _ _ W) _ ?_
  intro W6 hW6
  have HM6 : Hid (PartsAt w W6 #[.int .i64 lv, .string lo, .string hi, .bool la, .int .i64 nx, .slice (some ⟨gP, 0, none⟩) P.length P.length, .slice av vs.length cv, .slice (some ⟨gR, 0, none⟩) R.length R.length] #[.int .i64 0, .string ⟨#[]⟩, .string ⟨#[]⟩, .bool false, .int .i64 0, .slice none 0 0, .slice none 0 0, .slice none 0 0] #[.int .i64 0, .string ⟨#[]⟩, .string ⟨#[]⟩, .bool false, .int .i64 0, .slice none 0 0, .slice none 0 0, .slice none 0 0]) := Lib.hid (by rw [hW6]; exact HP6.out.setN 7 (.slice (some ⟨gR, 0, none⟩) R.length R.length))
  have HRP7 := Lib.hid (HP6.out.n.whole_far HRP6.out (by decide) 7 (.slice (some ⟨gR, 0, none⟩) R.length R.length))
  have HRR7 := Lib.hid (HP6.out.n.whole_far HRR.out (by decide) 7 (.slice (some ⟨gR, 0, none⟩) R.length R.length))
  rw [← hW6] at HRP7 HRR7
  clear hW6 fq q0 q1 q2 q3 q4 q5 q6 q7 HP6 HRP6 HRR
  have h2 : 2 ≤ P.length := by have := HPL.out; have := HE.out; omega
  have HPT := Lib.hid (parts_of lv nx lo hi la (some ⟨gP, 0, none⟩) av (some ⟨gR, 0, none⟩) P.length cv R.length P vs R cell W6 ⟨Whole.rd_map HRP7.out (by have := HPL.out; have := HFT.out.n; omega), HND.out.v.keep HM6.out.below, Whole.rd_map HRR7.out (by have := HPL.out; have := HFT.out.n; omega)⟩ HPS.out (by have := HPL.out; have := HFT.out.n; omega) (fun _ => rises_nth HPR.out (by unfold hlf; omega) (by unfold hlf; omega)))
  rw [decide_eq_true h2] at HPT
  obtain ⟨X, hX⟩ : ∃ X, X = Nod.or true (Nod.left ⟨lv, nx, lo, hi, la, P, vs, R⟩ cell) := ⟨_, rfl⟩
  obtain ⟨Y, hY⟩ : ∃ Y, Y = Nod.or true (Nod.right ⟨lv, nx, lo, hi, la, P, vs, R⟩) := ⟨_, rfl⟩
  rw [← hX, ← hY] at HPT
  have HXX := Lib.hid hX
  have HYY := Lib.hid hY
  clear hX hY h2
  obtain ⟨q0, q1, q2, q3, q4, q5, q6, q7⟩ := HM6.out.n.cells
  go_wp2_with fail
  refine HPT.out.mono ?_
  rintro e w8 hg
  have HG := Lib.hid hg
  obtain ⟨ak1, av1, ac1, ak2, av2, ac2, ck1, cv1, cc1, ck2, cv2, cc2, rfl, _, _, hb8, _⟩ := hg
  have HP8 := Lib.hid (HM6.out.keep hb8)
  clear hb8 q0 q1 q2 q3 q4 q5 q6 q7 HPT
  obtain ⟨t0, t1, t2, t3, t4, t5, t6, t7⟩ := HP8.out.l.cells
  obtain ⟨u0, u1, u2, u3, u4, u5, u6, u7⟩ := HP8.out.r.cells
  have f0 := HP8.out.l.frozen 0
  have f1 := HP8.out.l.frozen 1
  have f2 := HP8.out.l.frozen 2
  have f3 := HP8.out.l.frozen 3
  have f4 := HP8.out.l.frozen 4
  have f5 := HP8.out.l.frozen 5
  have f6 := HP8.out.l.frozen 6
  have f7 := HP8.out.l.frozen 7
  have g0 := HP8.out.r.frozen 0
  have g1 := HP8.out.r.frozen 1
  have g2 := HP8.out.r.frozen 2
  have g3 := HP8.out.r.frozen 3
  have g4 := HP8.out.r.frozen 4
  have g5 := HP8.out.r.frozen 5
  have g6 := HP8.out.r.frozen 6
  have g7 := HP8.out.r.frozen 7
  go_wp2
  refine bodyPost_ret (v := .tuple #[.agg #[.int .i64 X.lv, .string X.lo, .string X.hi, .bool X.la, .int .i64 X.nx, .slice ak1 X.ks.length ck1, .slice av1 X.vs.length cv1, .slice ac1 X.cs.length cc1], .agg #[.int .i64 Y.lv, .string Y.lo, .string Y.hi, .bool Y.la, .int .i64 Y.nx, .slice ak2 Y.ks.length ck2, .slice av2 Y.vs.length cv2, .slice ac2 Y.cs.length cc2], .bool true]) (by simp [results, Try.results14, go_sem, *]) rfl ?_
  have hfin := gaveTwo_stored HG.out HM6.out.below (by omega) (by have := HM6.out.size; omega) (by omega) (by have := HM6.out.size; omega) (A1 := w.heap.size + 1) (A2 := w.heap.size + 2) [(0, .int .i64 X.lv), (1, .string X.lo), (2, .string X.hi), (3, .bool X.la), (4, .int .i64 X.nx), (5, .slice ak1 X.ks.length ck1), (6, .slice av1 X.vs.length cv1), (7, .slice ac1 X.cs.length cc1)] [(0, .int .i64 Y.lv), (1, .string Y.lo), (2, .string Y.hi), (3, .bool Y.la), (4, .int .i64 Y.nx), (5, .slice ak2 Y.ks.length ck2), (6, .slice av2 Y.vs.length cv2), (7, .slice ac2 Y.cs.length cc2)]
  simp only [wr5] at hfin
  rw [HT.out, HNO.out, ← HXX.out, ← HYY.out]
  exact hfin
end Go.Proofs.Ytlcnnnljdffbmaa
