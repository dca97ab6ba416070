/- bowerref13.Split and Burst: a node as two, an inner one with an entry more as two, or none. Condition: sizes that fit. bowerref13.Burst: an inner node with an entry more as two, or none. Condition: sizes that fit. -/
import Derived.Test.YtmkglaghnjnooaaHalvePart2
import Derived.Test.YtmkglaghnjnooaaHalveBurst2
import Derived.Test.YtmkglaghnjnooaaInnerRPut
namespace Go.Proofs.Ytmkglaghnjnooaa
open Go.RowKit

/-- Two nodes are told, and whether. -/
def GaveTwoD (w w' : World) (e : Ending) (b : Bool) (n m : Nod) : Prop :=
  ∃ (ak1 av1 ac1 ak2 av2 ac2 : Option Addr) (ck1 cv1 cc1 ck2 cv2 cc2 : Nat), e = .returned (.tuple #[.agg #[.int .i64 n.lv, .string n.lo, .string n.hi, .bool n.la, .int .i64 n.nx, .slice ak1 n.ks.length ck1, .slice av1 n.vs.length cv1, .slice ac1 n.cs.length cc1], .agg #[.int .i64 m.lv, .string m.lo, .string m.hi, .bool m.la, .int .i64 m.nx, .slice ak2 m.ks.length ck2, .slice av2 m.vs.length cv2, .slice ac2 m.cs.length cc2], .bool b]) ∧ NdAt w' ak1 av1 ac1 n.ks.length ck1 n.vs.length cv1 n.cs.length cc1 n.ks n.vs n.cs ∧ NdAt w' ak2 av2 ac2 m.ks.length ck2 m.vs.length cv2 m.cs.length cc2 m.ks m.vs m.cs ∧ Below w.heap.size w w'
theorem rows_of {lv nx : Int} {lo hi : ByteArray} {la : Bool} {ks : List ByteArray} {vs : List Nat} {cs : List Int} {f : Int} (h : SoundP lv nx lo hi la ks.length vs.length cs.length ks cs f) : (lv = 0 ∧ vs.length = ks.length ∧ cs = []) ∨ (lv ≠ 0 ∧ vs = [] ∧ cs.length = ks.length) := by
  by_cases h0 : lv = 0
  · obtain ⟨e1, e2, _⟩ := h.entries.leaf h0
    exact Or.inl ⟨h0, e1, List.eq_nil_of_length_eq_zero e2⟩
  · obtain ⟨e1, _, e3, _⟩ := h.entries.inner h0
    exact Or.inr ⟨h0, List.eq_nil_of_length_eq_zero e3, e1⟩
theorem GaveTwo.d {w w' : World} {e : Ending} {b : Bool} {n m : Nod} (h : GaveTwo w w' e b n m) : GaveTwoD w w' e b n m := by
  obtain ⟨ak1, av1, ac1, ak2, av2, ac2, ck1, cv1, cc1, ck2, cv2, cc2, h1, h2, h3, h4, _⟩ := h
  exact ⟨ak1, av1, ac1, ak2, av2, ac2, ck1, cv1, cc1, ck2, cv2, cc2, h1, h2, h3, h4⟩

set_option maxHeartbeats 8000000 in
set_option maxRecDepth 100000 in
theorem rsplit_of (lv nx : Int) (lo hi : ByteArray) (la : Bool) (ak av ac : Option Addr) (ck cv cc : Nat) (ks : List ByteArray) (vs : List Nat) (cs : List Int) (cell : Int) (b : Bool) (w : World) (hN : NdAt w ak av ac ks.length ck vs.length cv cs.length cc ks vs cs) (hf : Fit lo hi ks ks.length vs.length cs.length) (hb : b = true ↔ Nod.SplitP ⟨lv, nx, lo, hi, la, ks, vs, cs⟩ cell) :
    Calls Try.prog 13 #[.agg #[.int .i64 lv, .string lo, .string hi, .bool la, .int .i64 nx, .slice ak ks.length ck, .slice av vs.length cv, .slice ac cs.length cc], .int .i64 cell] w fun e w' => GaveTwoD w w' e b (Nod.or b (Nod.left ⟨lv, nx, lo, hi, la, ks, vs, cs⟩ cell)) (Nod.or b (Nod.right ⟨lv, nx, lo, hi, la, ks, vs, cs⟩)) := by
  obtain ⟨w1, hw1, n1, n2, n3, hB, hsz⟩ := boxes3 w #[.int .i64 lv, .string lo, .string hi, .bool la, .int .i64 nx, .slice ak ks.length ck, .slice av vs.length cv, .slice ac cs.length cc] #[.int .i64 0, .string ⟨#[]⟩, .string ⟨#[]⟩, .bool false, .int .i64 0, .slice none 0 0, .slice none 0 0, .slice none 0 0] #[.int .i64 0, .string ⟨#[]⟩, .string ⟨#[]⟩, .bool false, .int .i64 0, .slice none 0 0, .slice none 0 0, .slice none 0 0]
  have HW1 := Lib.hid hw1
  have HSZ := Lib.hid hsz
  have HP1 : Hid (PartsAt w w1 #[.int .i64 lv, .string lo, .string hi, .bool la, .int .i64 nx, .slice ak ks.length ck, .slice av vs.length cv, .slice ac cs.length cc] #[.int .i64 0, .string ⟨#[]⟩, .string ⟨#[]⟩, .bool false, .int .i64 0, .slice none 0 0, .slice none 0 0, .slice none 0 0] #[.int .i64 0, .string ⟨#[]⟩, .string ⟨#[]⟩, .bool false, .int .i64 0, .slice none 0 0, .slice none 0 0, .slice none 0 0]) := Lib.hid ⟨n1, n2, n3, hB⟩
  obtain ⟨l, hl⟩ := bool_or (SoundP lv nx lo hi la ks.length vs.length cs.length ks cs 64)
  have HIS := Lib.hid (rsound_of lv nx lo hi la ak av ac ks.length ck vs.length cv cs.length cc ks vs cs 64 l w1 (hN.keep hB) hf hl)
  have HCE := Lib.hid (fun W => rcell_any cell W)
  have HND := Lib.hid hN
  have HFT := Lib.hid hf
  have HLL := Lib.hid hl
  have HBB := Lib.hid hb
  obtain ⟨q0, q1, q2, q3, q4, q5, q6, q7⟩ := n1.cells
  clear hN hf hb hl n1 n2 n3 hB hw1 hsz
  go_enter Try.func13, Try.ntmps13
  go_wp2_with fail
  rw [← HW1.out]
  refine HIS.out.mono ?_
  rintro e w2 ⟨rfl, hb2⟩
  have HP2 := Lib.hid (HP1.out.keep hb2)
  clear hb2 q0 q1 q2 q3 q4 q5 q6 q7 HIS HW1
  cases l with
  | false =>
    have HF : Hid (b = false) := Lib.hid (bool_no HBB.out (fun h => by have := HLL.out.2 h.1; cases this))
    obtain ⟨t0, t1, t2, t3, t4, t5, t6, t7⟩ := HP2.out.l.cells
    obtain ⟨u0, u1, u2, u3, u4, u5, u6, u7⟩ := HP2.out.r.cells
    have f0 := HP2.out.l.frozen 0
    have f1 := HP2.out.l.frozen 1
    have f2 := HP2.out.l.frozen 2
    have f3 := HP2.out.l.frozen 3
    have f4 := HP2.out.l.frozen 4
    have f5 := HP2.out.l.frozen 5
    have f6 := HP2.out.l.frozen 6
    have f7 := HP2.out.l.frozen 7
    have g0 := HP2.out.r.frozen 0
    have g1 := HP2.out.r.frozen 1
    have g2 := HP2.out.r.frozen 2
    have g3 := HP2.out.r.frozen 3
    have g4 := HP2.out.r.frozen 4
    have g5 := HP2.out.r.frozen 5
    have g6 := HP2.out.r.frozen 6
    have g7 := HP2.out.r.frozen 7
    go_wp2
    refine bodyPost_ret (v := .tuple #[.agg #[.int .i64 0, .string ⟨#[]⟩, .string ⟨#[]⟩, .bool false, .int .i64 0, .slice none 0 0, .slice none 0 0, .slice none 0 0], .agg #[.int .i64 0, .string ⟨#[]⟩, .string ⟨#[]⟩, .bool false, .int .i64 0, .slice none 0 0, .slice none 0 0, .slice none 0 0], .bool false]) (by simp [results, Try.results13, go_sem, *]) rfl ?_
    rw [HF.out]
    exact GaveTwo.d (gaveTwo_none (wr5_below (w.heap.size + 2) w.heap.size (by omega) [(0, _), (1, _), (2, _), (3, _), (4, _), (5, _), (6, _), (7, _)] w _ (wr5_below (w.heap.size + 1) w.heap.size (by omega) [(0, _), (1, _), (2, _), (3, _), (4, _), (5, _), (6, _), (7, _)] w _ HP2.out.below)))
  | true =>
  have HS := Lib.hid (HLL.out.1 rfl)
  obtain ⟨q0, q1, q2, q3, q4, q5, q6, q7⟩ := HP2.out.n.cells
  by_cases h2 : ks.length < 2
  · have h2i : (ks.length : Int) < 2 := by omega
    have HF : Hid (b = false) := Lib.hid (bool_no HBB.out (fun h => by have := h.2.1; simp only at this; omega))
    clear h2
    obtain ⟨t0, t1, t2, t3, t4, t5, t6, t7⟩ := HP2.out.l.cells
    obtain ⟨u0, u1, u2, u3, u4, u5, u6, u7⟩ := HP2.out.r.cells
    have f0 := HP2.out.l.frozen 0
    have f1 := HP2.out.l.frozen 1
    have f2 := HP2.out.l.frozen 2
    have f3 := HP2.out.l.frozen 3
    have f4 := HP2.out.l.frozen 4
    have f5 := HP2.out.l.frozen 5
    have f6 := HP2.out.l.frozen 6
    have f7 := HP2.out.l.frozen 7
    have g0 := HP2.out.r.frozen 0
    have g1 := HP2.out.r.frozen 1
    have g2 := HP2.out.r.frozen 2
    have g3 := HP2.out.r.frozen 3
    have g4 := HP2.out.r.frozen 4
    have g5 := HP2.out.r.frozen 5
    have g6 := HP2.out.r.frozen 6
    have g7 := HP2.out.r.frozen 7
    go_wp2
    refine bodyPost_ret (v := .tuple #[.agg #[.int .i64 0, .string ⟨#[]⟩, .string ⟨#[]⟩, .bool false, .int .i64 0, .slice none 0 0, .slice none 0 0, .slice none 0 0], .agg #[.int .i64 0, .string ⟨#[]⟩, .string ⟨#[]⟩, .bool false, .int .i64 0, .slice none 0 0, .slice none 0 0, .slice none 0 0], .bool false]) (by simp [results, Try.results13, go_sem, *]) rfl ?_
    rw [HF.out]
    exact GaveTwo.d (gaveTwo_none (wr5_below (w.heap.size + 2) w.heap.size (by omega) [(0, _), (1, _), (2, _), (3, _), (4, _), (5, _), (6, _), (7, _)] w _ (wr5_below (w.heap.size + 1) w.heap.size (by omega) [(0, _), (1, _), (2, _), (3, _), (4, _), (5, _), (6, _), (7, _)] w _ HP2.out.below)))
  have h2i : ¬ (ks.length : Int) < 2 := by omega
  go_wp2_with fail
  refine (HCE.out _).mono ?_
  rintro e wx ⟨rfl, rfl⟩
  cases hcb : cellB cell with
  | false =>
    have HF : Hid (b = false) := Lib.hid (bool_no HBB.out (fun h => by have := h.2.2; rw [hcb] at this; cases this))
    obtain ⟨t0, t1, t2, t3, t4, t5, t6, t7⟩ := HP2.out.l.cells
    obtain ⟨u0, u1, u2, u3, u4, u5, u6, u7⟩ := HP2.out.r.cells
    have f0 := HP2.out.l.frozen 0
    have f1 := HP2.out.l.frozen 1
    have f2 := HP2.out.l.frozen 2
    have f3 := HP2.out.l.frozen 3
    have f4 := HP2.out.l.frozen 4
    have f5 := HP2.out.l.frozen 5
    have f6 := HP2.out.l.frozen 6
    have f7 := HP2.out.l.frozen 7
    have g0 := HP2.out.r.frozen 0
    have g1 := HP2.out.r.frozen 1
    have g2 := HP2.out.r.frozen 2
    have g3 := HP2.out.r.frozen 3
    have g4 := HP2.out.r.frozen 4
    have g5 := HP2.out.r.frozen 5
    have g6 := HP2.out.r.frozen 6
    have g7 := HP2.out.r.frozen 7
    go_wp2
    refine bodyPost_ret (v := .tuple #[.agg #[.int .i64 0, .string ⟨#[]⟩, .string ⟨#[]⟩, .bool false, .int .i64 0, .slice none 0 0, .slice none 0 0, .slice none 0 0], .agg #[.int .i64 0, .string ⟨#[]⟩, .string ⟨#[]⟩, .bool false, .int .i64 0, .slice none 0 0, .slice none 0 0, .slice none 0 0], .bool false]) (by simp [results, Try.results13, go_sem, *]) rfl ?_
    rw [HF.out]
    exact GaveTwo.d (gaveTwo_none (wr5_below (w.heap.size + 2) w.heap.size (by omega) [(0, _), (1, _), (2, _), (3, _), (4, _), (5, _), (6, _), (7, _)] w _ (wr5_below (w.heap.size + 1) w.heap.size (by omega) [(0, _), (1, _), (2, _), (3, _), (4, _), (5, _), (6, _), (7, _)] w _ HP2.out.below)))
  | true =>
  have HT : Hid (b = true) := Lib.hid (HBB.out.2 ⟨HS.out, by simp only; omega, hcb⟩)
  have HLV : Hid ((lv = 0 ∧ vs.length = ks.length ∧ cs = []) ∨ (lv ≠ 0 ∧ vs = [] ∧ cs.length = ks.length)) := Lib.hid (rows_of HS.out)
  have HPT := Lib.hid (fun W (h : Below w.heap.size w W) => part_of lv nx lo hi la ak av ac ck cv cc ks vs cs cell W (HND.out.keep h) HFT.out.ks (by have := HFT.out.n; omega) (by omega) HS.out.level.1 HLV.out (rises_nth HS.out.keys.rise (by unfold hlf; omega) (by unfold hlf; omega)))
  obtain ⟨X, hX⟩ : ∃ X, X = Nod.left ⟨lv, nx, lo, hi, la, ks, vs, cs⟩ cell := ⟨_, rfl⟩
  obtain ⟨Y, hY⟩ : ∃ Y, Y = Nod.right ⟨lv, nx, lo, hi, la, ks, vs, cs⟩ := ⟨_, rfl⟩
  rw [← hX, ← hY] at HPT
  have HXX := Lib.hid hX
  have HYY := Lib.hid hY
  clear hX hY hcb
  go_wp2_with fail
  refine (HPT.out _ HP2.out.below).mono ?_
  rintro e w8 ⟨ak1, av1, ac1, ak2, av2, ac2, ck1, cv1, cc1, ck2, cv2, cc2, rfl, o1, o2, hb8⟩
  clear HPT
  obtain ⟨m1, m2, hB9⟩ := boxes2 w8 #[.int .i64 X.lv, .string X.lo, .string X.hi, .bool X.la, .int .i64 X.nx, .slice ak1 X.ks.length ck1, .slice av1 X.vs.length cv1, .slice ac1 X.cs.length cc1] #[.int .i64 Y.lv, .string Y.lo, .string Y.hi, .bool Y.la, .int .i64 Y.nx, .slice ak2 Y.ks.length ck2, .slice av2 Y.vs.length cv2, .slice ac2 Y.cs.length cc2]
  obtain ⟨W8, hW8⟩ : ∃ W, W = (w8.alloc (.cells #[.int .i64 X.lv, .string X.lo, .string X.hi, .bool X.la, .int .i64 X.nx, .slice ak1 X.ks.length ck1, .slice av1 X.vs.length cv1, .slice ac1 X.cs.length cc1] 26)).alloc (.cells #[.int .i64 Y.lv, .string Y.lo, .string Y.hi, .bool Y.la, .int .i64 Y.nx, .slice ak2 Y.ks.length ck2, .slice av2 Y.vs.length cv2, .slice ac2 Y.cs.length cc2] 26) := ⟨_, rfl⟩
  rw [← hW8] at m1 m2 hB9
  have HP8 := Lib.hid (HP2.out.keep hb8)
  have HP9 := Lib.hid (HP8.out.keep hB9)
  have HZ8 := Lib.hid HP8.out.size
  have HO1 := Lib.hid (o1.keep hB9)
  have HO2 := Lib.hid (o2.keep hB9)
  have HM1 := Lib.hid m1
  have HM2 := Lib.hid m2
  have HW8 := Lib.hid hW8
  clear m1 m2 hB9 hW8 o1 o2 hb8 HP8 q0 q1 q2 q3 q4 q5 q6 q7
  go_upto_region 4 with fail
  rw [← HW8.out]
  clear HW8
  go_cut [6] (fun s6 wx => Hid (s6 = .bool true ∧ PartsAt w wx #[.int .i64 lv, .string lo, .string hi, .bool la, .int .i64 nx, .slice ak ks.length ck, .slice av vs.length cv, .slice ac cs.length cc] #[.int .i64 X.lv, .string X.lo, .string X.hi, .bool X.la, .int .i64 X.nx, .slice ak1 X.ks.length ck1, .slice av1 X.vs.length cv1, .slice ac1 X.cs.length cc1] #[.int .i64 Y.lv, .string Y.lo, .string Y.hi, .bool Y.la, .int .i64 Y.nx, .slice ak2 Y.ks.length ck2, .slice av2 Y.vs.length cv2, .slice ac2 Y.cs.length cc2] ∧ OwnN wx w2.heap.size ak1 av1 ac1 ck1 cv1 cc1 X.ks X.vs X.cs ∧ OwnN wx w2.heap.size ak2 av2 ac2 ck2 cv2 cc2 Y.ks Y.vs Y.cs))
  case first =>
    rename_i J1 KX1 hJ1 hKX1
    have n1 : w8.heap.size ≠ w.heap.size + 1 := by have := HZ8.out; omega
    have n2 : w8.heap.size ≠ w.heap.size + 2 := by have := HZ8.out; omega
    have n3 : w8.heap.size + 1 ≠ w.heap.size + 1 := by have := HZ8.out; omega
    have n4 : w8.heap.size + 1 ≠ w.heap.size + 2 := by have := HZ8.out; omega
    have m1 : w.heap.size + 1 ≠ w8.heap.size := fun e => n1 e.symm
    have m2 : w.heap.size + 2 ≠ w8.heap.size := fun e => n2 e.symm
    have m3 : w.heap.size + 1 ≠ w8.heap.size + 1 := fun e => n3 e.symm
    have m4 : w.heap.size + 2 ≠ w8.heap.size + 1 := fun e => n4 e.symm
    obtain ⟨p0, p1, p2, p3, p4, p5, p6, p7⟩ := HM1.out.cells
    obtain ⟨q0, q1, q2, q3, q4, q5, q6, q7⟩ := HM2.out.cells
    obtain ⟨t0, t1, t2, t3, t4, t5, t6, t7⟩ := HP9.out.l.cells
    obtain ⟨u0, u1, u2, u3, u4, u5, u6, u7⟩ := HP9.out.r.cells
    have f0 := HP9.out.l.frozen 0
    have f1 := HP9.out.l.frozen 1
    have f2 := HP9.out.l.frozen 2
    have f3 := HP9.out.l.frozen 3
    have f4 := HP9.out.l.frozen 4
    have f5 := HP9.out.l.frozen 5
    have f6 := HP9.out.l.frozen 6
    have f7 := HP9.out.l.frozen 7
    have g0 := HP9.out.r.frozen 0
    have g1 := HP9.out.r.frozen 1
    have g2 := HP9.out.r.frozen 2
    have g3 := HP9.out.r.frozen 3
    have g4 := HP9.out.r.frozen 4
    have g5 := HP9.out.r.frozen 5
    have g6 := HP9.out.r.frozen 6
    have g7 := HP9.out.r.frozen 7
    go_region
    all_goals
      refine hKX1 _ _ (Met.intro (hJ1 _ _ ?_))
      (repeat apply Exists.intro)
      refine ⟨?_, rfl⟩
      (try rw [show w.heap.size + 1 + 1 = w.heap.size + 2 from rfl])
      first
        | (with_reducible exact Lib.hid ⟨rfl, PartsAt.drew (PartsAt.lr HP9.out), OwnN.lr HO1.out HP9.out, OwnN.lr HO2.out HP9.out⟩)
        | (with_reducible exact Lib.hid ⟨rfl, PartsAt.drew (PartsAt.rl HP9.out), OwnN.rl HO1.out HP9.out, OwnN.rl HO2.out HP9.out⟩)
  case rest =>
    obtain ⟨h6, hM, hO1, hO2⟩ := hcut.out
    subst h6
    have MU := Lib.hid hM
    have OU1 := Lib.hid hO1
    have OU2 := Lib.hid hO2
    clear hcut hM hO1 hO2
    obtain ⟨t0, t1, t2, t3, t4, t5, t6, t7⟩ := MU.out.l.cells
    obtain ⟨u0, u1, u2, u3, u4, u5, u6, u7⟩ := MU.out.r.cells
    go_wp2
    refine bodyPost_ret (v := .tuple #[.agg #[.int .i64 X.lv, .string X.lo, .string X.hi, .bool X.la, .int .i64 X.nx, .slice ak1 X.ks.length ck1, .slice av1 X.vs.length cv1, .slice ac1 X.cs.length cc1], .agg #[.int .i64 Y.lv, .string Y.lo, .string Y.hi, .bool Y.la, .int .i64 Y.nx, .slice ak2 Y.ks.length ck2, .slice av2 Y.vs.length cv2, .slice ac2 Y.cs.length cc2], .bool true]) (by simp [results, Try.results13, go_sem, *]) rfl ?_
    rw [HT.out, show Nod.or true (Nod.left ⟨lv, nx, lo, hi, la, ks, vs, cs⟩ cell) = X from HXX.out.symm, show Nod.or true (Nod.right ⟨lv, nx, lo, hi, la, ks, vs, cs⟩) = Y from HYY.out.symm]
    exact ⟨_, _, _, _, _, _, _, _, _, _, _, _, rfl, OU1.out.nd, OU2.out.nd, MU.out.below⟩
end Go.Proofs.Ytmkglaghnjnooaa

namespace Go.Proofs.Ytmkglaghnjnooaa
open Go.RowKit

theorem newAt_lessH {ks : List ByteArray} {low : ByteArray} (hr : Rises ks) (hn : ∀ i, i < ks.length → nth ks i ≠ low) : NewAt ks (placeF ks low) low := newAt_of hr (fun h => hn _ h.1 h.2)
theorem newAt_notH {ks : List ByteArray} {low : ByteArray} {a : Nat} (h : NewAt ks a low) : ∀ i, i < a → lss low.data.toList (nth ks i).data.toList = false := fun i hi => by
  have := h.low i hi
  cases h2 : lss low.data.toList (nth ks i).data.toList with
  | false => rfl
  | true => exact absurd (lss_trans _ _ _ this h2) (by rw [lss_irrefl]; exact fun h => by cases h)
theorem not_there {ks : List ByteArray} {low : ByteArray} (hr : Rises ks) : (¬ thereF ks low) ↔ ∀ i, i < ks.length → nth ks i ≠ low := by
  constructor
  · intro h i hi e
    have hn := newAt_of hr h
    by_cases g : i < placeF ks low
    · have := hn.low i g
      rw [e, lss_irrefl] at this; cases this
    · have := hn.high i (by omega) hi
      rw [e, lss_irrefl] at this; cases this
  · intro h g
    exact h _ g.1 g.2

set_option maxHeartbeats 8000000 in
set_option maxRecDepth 100000 in
theorem rburst_of (lv nx : Int) (lo hi : ByteArray) (la : Bool) (ak av ac : Option Addr) (ck cv cc : Nat) (ks : List ByteArray) (vs : List Nat) (cs : List Int) (low : ByteArray) (kid cell : Int) (b : Bool) (w : World) (hN : NdAt w ak av ac ks.length ck vs.length cv cs.length cc ks vs cs) (hf : Fit lo hi ks ks.length vs.length cs.length) (hk : low.size ≤ 140737488355328) (hb : b = true ↔ Nod.BurstP ⟨lv, nx, lo, hi, la, ks, vs, cs⟩ low kid cell) :
    Calls Try.prog 15 #[.agg #[.int .i64 lv, .string lo, .string hi, .bool la, .int .i64 nx, .slice ak ks.length ck, .slice av vs.length cv, .slice ac cs.length cc], .string low, .int .i64 kid, .int .i64 cell] w fun e w' => GaveTwoD w w' e b (Nod.or b (Nod.left (Nod.post ⟨lv, nx, lo, hi, la, ks, vs, cs⟩ low kid) cell)) (Nod.or b (Nod.right (Nod.post ⟨lv, nx, lo, hi, la, ks, vs, cs⟩ low kid))) := by
  obtain ⟨w1, hw1, n1, n2, n3, hB, hsz⟩ := boxes3 w #[.int .i64 lv, .string lo, .string hi, .bool la, .int .i64 nx, .slice ak ks.length ck, .slice av vs.length cv, .slice ac cs.length cc] #[.int .i64 0, .string ⟨#[]⟩, .string ⟨#[]⟩, .bool false, .int .i64 0, .slice none 0 0, .slice none 0 0, .slice none 0 0] #[.int .i64 0, .string ⟨#[]⟩, .string ⟨#[]⟩, .bool false, .int .i64 0, .slice none 0 0, .slice none 0 0, .slice none 0 0]
  have HW1 := Lib.hid hw1
  have HP1 : Hid (PartsAt w w1 #[.int .i64 lv, .string lo, .string hi, .bool la, .int .i64 nx, .slice ak ks.length ck, .slice av vs.length cv, .slice ac cs.length cc] #[.int .i64 0, .string ⟨#[]⟩, .string ⟨#[]⟩, .bool false, .int .i64 0, .slice none 0 0, .slice none 0 0, .slice none 0 0] #[.int .i64 0, .string ⟨#[]⟩, .string ⟨#[]⟩, .bool false, .int .i64 0, .slice none 0 0, .slice none 0 0, .slice none 0 0]) := Lib.hid ⟨n1, n2, n3, hB⟩
  obtain ⟨l, hl⟩ := bool_or (0 < lv ∧ SoundP lv nx lo hi la ks.length vs.length cs.length ks cs 64)
  have HIS := Lib.hid (rinner_of lv nx lo hi la ak av ac ks.length ck vs.length cv cs.length cc ks vs cs l w1 (hN.keep hB) hf hl)
  have HCE := Lib.hid (fun W => rcell_any cell W)
  have HCK := Lib.hid (fun W => rcell_any kid W)
  have HKY := Lib.hid (fun W => rkey_any low W)
  have HIN := Lib.hid (fun W => rinside_any lo hi la low W hf.lo hf.hi hk)
  have HND := Lib.hid hN
  have HFT := Lib.hid hf
  have HLL := Lib.hid hl
  have HBB := Lib.hid hb
  have HKK := Lib.hid hk
  obtain ⟨q0, q1, q2, q3, q4, q5, q6, q7⟩ := n1.cells
  clear hN hf hb hl n1 n2 n3 hB hw1 hsz hk
  go_enter Try.func15, Try.ntmps15
  go_wp2_with fail
  rw [← HW1.out]
  refine HIS.out.mono ?_
  rintro e w2 ⟨rfl, hb2⟩
  have HP2 := Lib.hid (HP1.out.keep hb2)
  clear hb2 q0 q1 q2 q3 q4 q5 q6 q7 HIS HW1
  cases l with
  | false =>
    have HF : Hid (b = false) := Lib.hid (bool_no HBB.out (fun h => by have := HLL.out.2 h.1; cases this))
    obtain ⟨t0, t1, t2, t3, t4, t5, t6, t7⟩ := HP2.out.l.cells
    obtain ⟨u0, u1, u2, u3, u4, u5, u6, u7⟩ := HP2.out.r.cells
    have f0 := HP2.out.l.frozen 0
    have f1 := HP2.out.l.frozen 1
    have f2 := HP2.out.l.frozen 2
    have f3 := HP2.out.l.frozen 3
    have f4 := HP2.out.l.frozen 4
    have f5 := HP2.out.l.frozen 5
    have f6 := HP2.out.l.frozen 6
    have f7 := HP2.out.l.frozen 7
    have g0 := HP2.out.r.frozen 0
    have g1 := HP2.out.r.frozen 1
    have g2 := HP2.out.r.frozen 2
    have g3 := HP2.out.r.frozen 3
    have g4 := HP2.out.r.frozen 4
    have g5 := HP2.out.r.frozen 5
    have g6 := HP2.out.r.frozen 6
    have g7 := HP2.out.r.frozen 7
    go_wp2
    refine bodyPost_ret (v := .tuple #[.agg #[.int .i64 0, .string ⟨#[]⟩, .string ⟨#[]⟩, .bool false, .int .i64 0, .slice none 0 0, .slice none 0 0, .slice none 0 0], .agg #[.int .i64 0, .string ⟨#[]⟩, .string ⟨#[]⟩, .bool false, .int .i64 0, .slice none 0 0, .slice none 0 0, .slice none 0 0], .bool false]) (by simp [results, Try.results15, go_sem, *]) rfl ?_
    rw [HF.out]
    exact GaveTwo.d (gaveTwo_none (wr5_below (w.heap.size + 2) w.heap.size (by omega) [(0, _), (1, _), (2, _), (3, _), (4, _), (5, _), (6, _), (7, _)] w _ (wr5_below (w.heap.size + 1) w.heap.size (by omega) [(0, _), (1, _), (2, _), (3, _), (4, _), (5, _), (6, _), (7, _)] w _ HP2.out.below)))
  | true =>
  have HS := Lib.hid (HLL.out.1 rfl)
  go_wp2_with fail
  refine (HCE.out _).mono ?_
  rintro e wx ⟨rfl, rfl⟩
  cases hcb : cellB cell with
  | false =>
    have HF : Hid (b = false) := Lib.hid (bool_no HBB.out (fun h => by have := h.2.1; rw [hcb] at this; cases this))
    obtain ⟨t0, t1, t2, t3, t4, t5, t6, t7⟩ := HP2.out.l.cells
    obtain ⟨u0, u1, u2, u3, u4, u5, u6, u7⟩ := HP2.out.r.cells
    have f0 := HP2.out.l.frozen 0
    have f1 := HP2.out.l.frozen 1
    have f2 := HP2.out.l.frozen 2
    have f3 := HP2.out.l.frozen 3
    have f4 := HP2.out.l.frozen 4
    have f5 := HP2.out.l.frozen 5
    have f6 := HP2.out.l.frozen 6
    have f7 := HP2.out.l.frozen 7
    have g0 := HP2.out.r.frozen 0
    have g1 := HP2.out.r.frozen 1
    have g2 := HP2.out.r.frozen 2
    have g3 := HP2.out.r.frozen 3
    have g4 := HP2.out.r.frozen 4
    have g5 := HP2.out.r.frozen 5
    have g6 := HP2.out.r.frozen 6
    have g7 := HP2.out.r.frozen 7
    go_wp2
    refine bodyPost_ret (v := .tuple #[.agg #[.int .i64 0, .string ⟨#[]⟩, .string ⟨#[]⟩, .bool false, .int .i64 0, .slice none 0 0, .slice none 0 0, .slice none 0 0], .agg #[.int .i64 0, .string ⟨#[]⟩, .string ⟨#[]⟩, .bool false, .int .i64 0, .slice none 0 0, .slice none 0 0, .slice none 0 0], .bool false]) (by simp [results, Try.results15, go_sem, *]) rfl ?_
    rw [HF.out]
    exact GaveTwo.d (gaveTwo_none (wr5_below (w.heap.size + 2) w.heap.size (by omega) [(0, _), (1, _), (2, _), (3, _), (4, _), (5, _), (6, _), (7, _)] w _ (wr5_below (w.heap.size + 1) w.heap.size (by omega) [(0, _), (1, _), (2, _), (3, _), (4, _), (5, _), (6, _), (7, _)] w _ HP2.out.below)))
  | true =>
  have HCB := Lib.hid hcb
  clear hcb
  go_wp2_with fail
  refine (HCK.out _).mono ?_
  rintro e wx ⟨rfl, rfl⟩
  cases hck2 : cellB kid with
  | false =>
    have HF : Hid (b = false) := Lib.hid (bool_no HBB.out (fun h => by have := h.2.2.cell; rw [hck2] at this; cases this))
    obtain ⟨t0, t1, t2, t3, t4, t5, t6, t7⟩ := HP2.out.l.cells
    obtain ⟨u0, u1, u2, u3, u4, u5, u6, u7⟩ := HP2.out.r.cells
    have f0 := HP2.out.l.frozen 0
    have f1 := HP2.out.l.frozen 1
    have f2 := HP2.out.l.frozen 2
    have f3 := HP2.out.l.frozen 3
    have f4 := HP2.out.l.frozen 4
    have f5 := HP2.out.l.frozen 5
    have f6 := HP2.out.l.frozen 6
    have f7 := HP2.out.l.frozen 7
    have g0 := HP2.out.r.frozen 0
    have g1 := HP2.out.r.frozen 1
    have g2 := HP2.out.r.frozen 2
    have g3 := HP2.out.r.frozen 3
    have g4 := HP2.out.r.frozen 4
    have g5 := HP2.out.r.frozen 5
    have g6 := HP2.out.r.frozen 6
    have g7 := HP2.out.r.frozen 7
    go_wp2
    refine bodyPost_ret (v := .tuple #[.agg #[.int .i64 0, .string ⟨#[]⟩, .string ⟨#[]⟩, .bool false, .int .i64 0, .slice none 0 0, .slice none 0 0, .slice none 0 0], .agg #[.int .i64 0, .string ⟨#[]⟩, .string ⟨#[]⟩, .bool false, .int .i64 0, .slice none 0 0, .slice none 0 0, .slice none 0 0], .bool false]) (by simp [results, Try.results15, go_sem, *]) rfl ?_
    rw [HF.out]
    exact GaveTwo.d (gaveTwo_none (wr5_below (w.heap.size + 2) w.heap.size (by omega) [(0, _), (1, _), (2, _), (3, _), (4, _), (5, _), (6, _), (7, _)] w _ (wr5_below (w.heap.size + 1) w.heap.size (by omega) [(0, _), (1, _), (2, _), (3, _), (4, _), (5, _), (6, _), (7, _)] w _ HP2.out.below)))
  | true =>
  have HCKB := Lib.hid hck2
  clear hck2
  go_wp2_with fail
  refine (HKY.out _).mono ?_
  rintro e wx ⟨rfl, rfl⟩
  cases hkb : keyB low with
  | false =>
    have HF : Hid (b = false) := Lib.hid (bool_no HBB.out (fun h => by have := h.2.2.key; rw [hkb] at this; cases this))
    obtain ⟨t0, t1, t2, t3, t4, t5, t6, t7⟩ := HP2.out.l.cells
    obtain ⟨u0, u1, u2, u3, u4, u5, u6, u7⟩ := HP2.out.r.cells
    have f0 := HP2.out.l.frozen 0
    have f1 := HP2.out.l.frozen 1
    have f2 := HP2.out.l.frozen 2
    have f3 := HP2.out.l.frozen 3
    have f4 := HP2.out.l.frozen 4
    have f5 := HP2.out.l.frozen 5
    have f6 := HP2.out.l.frozen 6
    have f7 := HP2.out.l.frozen 7
    have g0 := HP2.out.r.frozen 0
    have g1 := HP2.out.r.frozen 1
    have g2 := HP2.out.r.frozen 2
    have g3 := HP2.out.r.frozen 3
    have g4 := HP2.out.r.frozen 4
    have g5 := HP2.out.r.frozen 5
    have g6 := HP2.out.r.frozen 6
    have g7 := HP2.out.r.frozen 7
    go_wp2
    refine bodyPost_ret (v := .tuple #[.agg #[.int .i64 0, .string ⟨#[]⟩, .string ⟨#[]⟩, .bool false, .int .i64 0, .slice none 0 0, .slice none 0 0, .slice none 0 0], .agg #[.int .i64 0, .string ⟨#[]⟩, .string ⟨#[]⟩, .bool false, .int .i64 0, .slice none 0 0, .slice none 0 0, .slice none 0 0], .bool false]) (by simp [results, Try.results15, go_sem, *]) rfl ?_
    rw [HF.out]
    exact GaveTwo.d (gaveTwo_none (wr5_below (w.heap.size + 2) w.heap.size (by omega) [(0, _), (1, _), (2, _), (3, _), (4, _), (5, _), (6, _), (7, _)] w _ (wr5_below (w.heap.size + 1) w.heap.size (by omega) [(0, _), (1, _), (2, _), (3, _), (4, _), (5, _), (6, _), (7, _)] w _ HP2.out.below)))
  | true =>
  have HKB := Lib.hid hkb
  clear hkb
  obtain ⟨q0, q1, q2, q3, q4, q5, q6, q7⟩ := HP2.out.n.cells
  go_wp2_with fail
  refine (HIN.out _).mono ?_
  rintro e w3 ⟨rfl, hd3⟩
  have HP3 := Lib.hid (HP2.out.keep (Drew.below hd3 _))
  clear hd3 q0 q1 q2 q3 q4 q5 q6 q7 HIN
  cases hib : insideB lo.data.toList hi.data.toList la low.data.toList with
  | false =>
    have HF : Hid (b = false) := Lib.hid (bool_no HBB.out (fun h => by have h2 := h.2.2.inn; simp only at h2; rw [hib] at h2; cases h2))
    obtain ⟨t0, t1, t2, t3, t4, t5, t6, t7⟩ := HP3.out.l.cells
    obtain ⟨u0, u1, u2, u3, u4, u5, u6, u7⟩ := HP3.out.r.cells
    have f0 := HP3.out.l.frozen 0
    have f1 := HP3.out.l.frozen 1
    have f2 := HP3.out.l.frozen 2
    have f3 := HP3.out.l.frozen 3
    have f4 := HP3.out.l.frozen 4
    have f5 := HP3.out.l.frozen 5
    have f6 := HP3.out.l.frozen 6
    have f7 := HP3.out.l.frozen 7
    have g0 := HP3.out.r.frozen 0
    have g1 := HP3.out.r.frozen 1
    have g2 := HP3.out.r.frozen 2
    have g3 := HP3.out.r.frozen 3
    have g4 := HP3.out.r.frozen 4
    have g5 := HP3.out.r.frozen 5
    have g6 := HP3.out.r.frozen 6
    have g7 := HP3.out.r.frozen 7
    go_wp2
    refine bodyPost_ret (v := .tuple #[.agg #[.int .i64 0, .string ⟨#[]⟩, .string ⟨#[]⟩, .bool false, .int .i64 0, .slice none 0 0, .slice none 0 0, .slice none 0 0], .agg #[.int .i64 0, .string ⟨#[]⟩, .string ⟨#[]⟩, .bool false, .int .i64 0, .slice none 0 0, .slice none 0 0, .slice none 0 0], .bool false]) (by simp [results, Try.results15, go_sem, *]) rfl ?_
    rw [HF.out]
    exact GaveTwo.d (gaveTwo_none (wr5_below (w.heap.size + 2) w.heap.size (by omega) [(0, _), (1, _), (2, _), (3, _), (4, _), (5, _), (6, _), (7, _)] w _ (wr5_below (w.heap.size + 1) w.heap.size (by omega) [(0, _), (1, _), (2, _), (3, _), (4, _), (5, _), (6, _), (7, _)] w _ HP3.out.below)))
  | true =>
  have HIB := Lib.hid hib
  clear hib
  have hlv0 : lv ≠ 0 := by have := HS.out.1; omega
  obtain ⟨hc, hnz, hv0, _⟩ := HS.out.2.entries.inner hlv0
  have HVN : Hid (vs = []) := Lib.hid (List.eq_nil_of_length_eq_zero hv0)
  have HLC := Lib.hid hc
  have HNZ : Hid (ks.length ≠ 0) := Lib.hid (by omega)
  have HRI := Lib.hid HS.out.2.keys.rise
  clear hc hnz hv0 hlv0
  go_upto_region 4 with fail
  go_loop [11] (fun s => ∃ i : Nat, s = .int .i64 i ∧ i ≤ ks.length ∧ Hid (∀ j, j < i → nth ks j ≠ low ∧ ni cs j ≠ kid)) (fun s => ks.length - (intOf s).toNat)
  case atStart => exact ⟨0, rfl, Nat.zero_le _, Lib.hid (fun j hj => absurd hj (Nat.not_lt_zero _))⟩
  case round =>
    obtain ⟨i, rfl, hi2, hall⟩ := hrel
    obtain ⟨q0, q1, q2, q3, q4, q5, q6, q7⟩ := HP3.out.n.cells
    by_cases hlt : i < ks.length
    case pos =>
      have g1 : (i : Int) < ks.length := by omega
      have g2 : (i : Int) < cs.length := by have := HLC.out; omega
      have hb64 := HFT.out.n.1
      obtain ⟨gk, ok, hgk, hck⟩ := rd_at HND.out.k ⟨#[]⟩ i hlt
      obtain ⟨gc, oc, hgc, hcc⟩ := rd_at HND.out.c (0 : Int) i (by have := HLC.out; omega)
      subst hgk
      subst hgc
      have e1 : w3.cell? ⟨gk, ok + i, none⟩ = some (.string (nth ks i)) := by
        have h1 := hck i hlt
        exact (HP3.out.below.cell (p := ⟨gk, ok + i, none⟩) (World.block_lt_of_cell? w _ h1)).trans h1
      have e2 : w3.cell? ⟨gc, oc + i, none⟩ = some (.int .i64 (ni cs i)) := by
        have h2 := hcc i (by have := HLC.out; omega)
        exact (HP3.out.below.cell (p := ⟨gc, oc + i, none⟩) (World.block_lt_of_cell? w _ h2)).trans h2
      clear hck hcc
      by_cases he1 : nth ks i = low
      · have hd1 : ((nth ks i).toList == low.toList) = true := by rw [he1]; simp
        have HF : Hid (b = false) := Lib.hid (bool_no HBB.out (fun h => (not_there HRI.out).1 h.2.2.new i hlt he1))
        clear he1
        generalize nth ks i = s at *
        obtain ⟨t0, t1, t2, t3, t4, t5, t6, t7⟩ := HP3.out.l.cells
        obtain ⟨u0, u1, u2, u3, u4, u5, u6, u7⟩ := HP3.out.r.cells
        have f0 := HP3.out.l.frozen 0
        have f1 := HP3.out.l.frozen 1
        have f2 := HP3.out.l.frozen 2
        have f3 := HP3.out.l.frozen 3
        have f4 := HP3.out.l.frozen 4
        have f5 := HP3.out.l.frozen 5
        have f6 := HP3.out.l.frozen 6
        have f7 := HP3.out.l.frozen 7
        have g0 := HP3.out.r.frozen 0
        have g1 := HP3.out.r.frozen 1
        have g2 := HP3.out.r.frozen 2
        have g3 := HP3.out.r.frozen 3
        have g4 := HP3.out.r.frozen 4
        have g5 := HP3.out.r.frozen 5
        have g6 := HP3.out.r.frozen 6
        have g7 := HP3.out.r.frozen 7
        go_wp2
        refine bodyPost_ret (v := .tuple #[.agg #[.int .i64 0, .string ⟨#[]⟩, .string ⟨#[]⟩, .bool false, .int .i64 0, .slice none 0 0, .slice none 0 0, .slice none 0 0], .agg #[.int .i64 0, .string ⟨#[]⟩, .string ⟨#[]⟩, .bool false, .int .i64 0, .slice none 0 0, .slice none 0 0, .slice none 0 0], .bool false]) (by simp [results, Try.results15, go_sem, *]) rfl ?_
        rw [HF.out]
        exact GaveTwo.d (gaveTwo_none (wr5_below (w.heap.size + 2) w.heap.size (by omega) [(0, _), (1, _), (2, _), (3, _), (4, _), (5, _), (6, _), (7, _)] w _ (wr5_below (w.heap.size + 1) w.heap.size (by omega) [(0, _), (1, _), (2, _), (3, _), (4, _), (5, _), (6, _), (7, _)] w _ HP3.out.below)))
      · have hd1 := text_ne he1
        have HQ1 := Lib.hid he1
        clear he1
        by_cases he2 : ni cs i = kid
        · have hd2 : (ni cs i == kid) = true := by rw [he2]; simp
          have HF : Hid (b = false) := Lib.hid (bool_no HBB.out (fun h => h.2.2.kid i (by have := HLC.out; simp only; omega) he2))
          clear he2
          generalize nth ks i = s at *
          generalize ni cs i = z at *
          obtain ⟨t0, t1, t2, t3, t4, t5, t6, t7⟩ := HP3.out.l.cells
          obtain ⟨u0, u1, u2, u3, u4, u5, u6, u7⟩ := HP3.out.r.cells
          have f0 := HP3.out.l.frozen 0
          have f1 := HP3.out.l.frozen 1
          have f2 := HP3.out.l.frozen 2
          have f3 := HP3.out.l.frozen 3
          have f4 := HP3.out.l.frozen 4
          have f5 := HP3.out.l.frozen 5
          have f6 := HP3.out.l.frozen 6
          have f7 := HP3.out.l.frozen 7
          have g0 := HP3.out.r.frozen 0
          have g1 := HP3.out.r.frozen 1
          have g2 := HP3.out.r.frozen 2
          have g3 := HP3.out.r.frozen 3
          have g4 := HP3.out.r.frozen 4
          have g5 := HP3.out.r.frozen 5
          have g6 := HP3.out.r.frozen 6
          have g7 := HP3.out.r.frozen 7
          go_wp2
          refine bodyPost_ret (v := .tuple #[.agg #[.int .i64 0, .string ⟨#[]⟩, .string ⟨#[]⟩, .bool false, .int .i64 0, .slice none 0 0, .slice none 0 0, .slice none 0 0], .agg #[.int .i64 0, .string ⟨#[]⟩, .string ⟨#[]⟩, .bool false, .int .i64 0, .slice none 0 0, .slice none 0 0, .slice none 0 0], .bool false]) (by simp [results, Try.results15, go_sem, *]) rfl ?_
          rw [HF.out]
          exact GaveTwo.d (gaveTwo_none (wr5_below (w.heap.size + 2) w.heap.size (by omega) [(0, _), (1, _), (2, _), (3, _), (4, _), (5, _), (6, _), (7, _)] w _ (wr5_below (w.heap.size + 1) w.heap.size (by omega) [(0, _), (1, _), (2, _), (3, _), (4, _), (5, _), (6, _), (7, _)] w _ HP3.out.below)))
        · have hd2 : (ni cs i == kid) = false := beq_eq_false_iff_ne.2 he2
          have HN : Hid (∀ j, j < i + 1 → nth ks j ≠ low ∧ ni cs j ≠ kid) := Lib.hid (fun j hj => by
            by_cases e : j = i
            · subst e; exact ⟨HQ1.out, he2⟩
            · exact hall.out j (by omega))
          clear he2 HQ1
          generalize nth ks i = s at *
          generalize ni cs i = z at *
          go_wp2
          go_round
          case rel => exact ⟨i + 1, by go_num, by omega, HN⟩
          case measure => simp [intOf]; omega
    case neg =>
      obtain rfl : i = ks.length := by omega
      have HT : Hid (b = true) := Lib.hid (HBB.out.2 ⟨HS.out, HCB.out, ⟨HKB.out, HIB.out, (not_there HRI.out).2 (fun i hi => (hall.out i hi).1), HCKB.out, fun i hi => (hall.out i (by have := HLC.out; simp only at hi; omega)).2⟩⟩)
      have hna := newAt_lessH HRI.out (fun i hi => (hall.out i hi).1)
      have HPU := Lib.hid (fun W (h : Below w.heap.size w W) => rput_of lv nx lo hi la ak av ac ck cv cc ks vs cs low kid (placeF ks low) W (HND.out.keep h) HFT.out HLC.out HKK.out hna.le (newAt_notH hna) (fun h => hna.high _ (Nat.le_refl _) h))
      obtain ⟨PP, hPP⟩ : ∃ x, x = insF ks (placeF ks low) low := ⟨_, rfl⟩
      obtain ⟨RR, hRR⟩ : ∃ x, x = insF cs (placeF ks low) kid := ⟨_, rfl⟩
      have HNO : Hid (Nod.post ⟨lv, nx, lo, hi, la, ks, vs, cs⟩ low kid = ⟨lv, nx, lo, hi, la, PP, vs, RR⟩) := Lib.hid (by rw [hPP, hRR, HVN.out]; rfl)
      have HPR : Hid (Rises PP) := Lib.hid (by rw [hPP]; exact rises_ins HRI.out hna)
      have HPN : Hid (PP.length = ks.length + 1 ∧ RR.length = ks.length + 1) := Lib.hid ⟨by rw [hPP, insF_len hna.le], by rw [hRR, insF_len (by have := HLC.out; have := hna.le; omega), HLC.out]⟩
      have HPS : Hid (∀ x ∈ PP, x.size ≤ 140737488355328) := Lib.hid (fun x hx => by
        rw [hPP] at hx
        unfold insF at hx
        rcases List.mem_append.1 hx with h | h
        · exact HFT.out.ks x (List.mem_of_mem_take h)
        · rcases List.mem_cons.1 h with rfl | h
          · exact HKK.out
          · exact HFT.out.ks x (List.mem_of_mem_drop h))
      rw [← hPP, ← hRR] at HPU
      clear hna hPP hRR
      go_wp2_with fail
      refine (HPU.out _ HP3.out.below).mono ?_
      rintro e w4 ⟨ka, ca, kc, ccP, rfl, h1, h2, h3⟩
      have HP4 := Lib.hid (HP3.out.keep h3)
      have HPT := Lib.hid (part_of lv nx lo hi la ka av ca kc cv ccP PP vs RR cell w4 ⟨rd_of_owns h1, HND.out.v.keep HP4.out.below, rd_of_owns h2⟩ HPS.out (by have := HPN.out; have := HS.out.2.keys.many; omega) (by have := HPN.out; have := HNZ.out; omega) (by have := HS.out.1; omega) (Or.inr ⟨by have := HS.out.1; omega, HVN.out, by have := HPN.out; omega⟩) (rises_nth HPR.out (by unfold hlf; have := HPN.out; have := HNZ.out; omega) (by unfold hlf; have := HPN.out; have := HNZ.out; omega)))
      obtain ⟨X, hX⟩ : ∃ X, X = Nod.left ⟨lv, nx, lo, hi, la, PP, vs, RR⟩ cell := ⟨_, rfl⟩
      obtain ⟨Y, hY⟩ : ∃ Y, Y = Nod.right ⟨lv, nx, lo, hi, la, PP, vs, RR⟩ := ⟨_, rfl⟩
      rw [← hX, ← hY] at HPT
      have HXX := Lib.hid hX
      have HYY := Lib.hid hY
      clear hX hY h1 h2 h3 HPU q0 q1 q2 q3 q4 q5 q6 q7
      go_wp2_with fail
      refine HPT.out.mono ?_
      rintro e w8 ⟨ak1, av1, ac1, ak2, av2, ac2, ck1, cv1, cc1, ck2, cv2, cc2, rfl, o1, o2, hb8⟩
      obtain ⟨q0, q1, q2, q3, q4, q5, q6, q7⟩ := HP4.out.n.cells
      clear HPT
      obtain ⟨m1, m2, hB9⟩ := boxes2 w8 #[.int .i64 X.lv, .string X.lo, .string X.hi, .bool X.la, .int .i64 X.nx, .slice ak1 X.ks.length ck1, .slice av1 X.vs.length cv1, .slice ac1 X.cs.length cc1] #[.int .i64 Y.lv, .string Y.lo, .string Y.hi, .bool Y.la, .int .i64 Y.nx, .slice ak2 Y.ks.length ck2, .slice av2 Y.vs.length cv2, .slice ac2 Y.cs.length cc2]
      obtain ⟨W8, hW8⟩ : ∃ W, W = (w8.alloc (.cells #[.int .i64 X.lv, .string X.lo, .string X.hi, .bool X.la, .int .i64 X.nx, .slice ak1 X.ks.length ck1, .slice av1 X.vs.length cv1, .slice ac1 X.cs.length cc1] 26)).alloc (.cells #[.int .i64 Y.lv, .string Y.lo, .string Y.hi, .bool Y.la, .int .i64 Y.nx, .slice ak2 Y.ks.length ck2, .slice av2 Y.vs.length cv2, .slice ac2 Y.cs.length cc2] 26) := ⟨_, rfl⟩
      rw [← hW8] at m1 m2 hB9
      have HP8 := Lib.hid (HP4.out.keep hb8)
      have HP9 := Lib.hid (HP8.out.keep hB9)
      have HZ8 := Lib.hid HP8.out.size
      have HO1 := Lib.hid (o1.keep hB9)
      have HO2 := Lib.hid (o2.keep hB9)
      have HM1 := Lib.hid m1
      have HM2 := Lib.hid m2
      have HW8 := Lib.hid hW8
      clear m1 m2 hB9 hW8 o1 o2 hb8 HP8 q0 q1 q2 q3 q4 q5 q6 q7
      go_upto_region 9 with fail
      rw [← HW8.out]
      clear HW8
      go_cut [10] (fun s6 wx => Hid (s6 = .bool true ∧ PartsAt w wx #[.int .i64 lv, .string lo, .string hi, .bool la, .int .i64 nx, .slice ak ks.length ck, .slice av vs.length cv, .slice ac cs.length cc] #[.int .i64 X.lv, .string X.lo, .string X.hi, .bool X.la, .int .i64 X.nx, .slice ak1 X.ks.length ck1, .slice av1 X.vs.length cv1, .slice ac1 X.cs.length cc1] #[.int .i64 Y.lv, .string Y.lo, .string Y.hi, .bool Y.la, .int .i64 Y.nx, .slice ak2 Y.ks.length ck2, .slice av2 Y.vs.length cv2, .slice ac2 Y.cs.length cc2] ∧ OwnN wx w4.heap.size ak1 av1 ac1 ck1 cv1 cc1 X.ks X.vs X.cs ∧ OwnN wx w4.heap.size ak2 av2 ac2 ck2 cv2 cc2 Y.ks Y.vs Y.cs))
      case first =>
        rename_i J1 KX1 hJ1 hKX1
        have n1 : w8.heap.size ≠ w.heap.size + 1 := by have := HZ8.out; omega
        have n2 : w8.heap.size ≠ w.heap.size + 2 := by have := HZ8.out; omega
        have n3 : w8.heap.size + 1 ≠ w.heap.size + 1 := by have := HZ8.out; omega
        have n4 : w8.heap.size + 1 ≠ w.heap.size + 2 := by have := HZ8.out; omega
        have m1 : w.heap.size + 1 ≠ w8.heap.size := fun e => n1 e.symm
        have m2 : w.heap.size + 2 ≠ w8.heap.size := fun e => n2 e.symm
        have m3 : w.heap.size + 1 ≠ w8.heap.size + 1 := fun e => n3 e.symm
        have m4 : w.heap.size + 2 ≠ w8.heap.size + 1 := fun e => n4 e.symm
        obtain ⟨p0, p1, p2, p3, p4, p5, p6, p7⟩ := HM1.out.cells
        obtain ⟨q0, q1, q2, q3, q4, q5, q6, q7⟩ := HM2.out.cells
        obtain ⟨t0, t1, t2, t3, t4, t5, t6, t7⟩ := HP9.out.l.cells
        obtain ⟨u0, u1, u2, u3, u4, u5, u6, u7⟩ := HP9.out.r.cells
        have f0 := HP9.out.l.frozen 0
        have f1 := HP9.out.l.frozen 1
        have f2 := HP9.out.l.frozen 2
        have f3 := HP9.out.l.frozen 3
        have f4 := HP9.out.l.frozen 4
        have f5 := HP9.out.l.frozen 5
        have f6 := HP9.out.l.frozen 6
        have f7 := HP9.out.l.frozen 7
        have g0 := HP9.out.r.frozen 0
        have g1 := HP9.out.r.frozen 1
        have g2 := HP9.out.r.frozen 2
        have g3 := HP9.out.r.frozen 3
        have g4 := HP9.out.r.frozen 4
        have g5 := HP9.out.r.frozen 5
        have g6 := HP9.out.r.frozen 6
        have g7 := HP9.out.r.frozen 7
        go_region
        all_goals
          refine hKX1 _ _ (Met.intro (hJ1 _ _ ?_))
          (repeat apply Exists.intro)
          refine ⟨?_, rfl⟩
          (try rw [show w.heap.size + 1 + 1 = w.heap.size + 2 from rfl])
          first
            | (with_reducible exact Lib.hid ⟨rfl, PartsAt.drew (PartsAt.lr HP9.out), OwnN.lr HO1.out HP9.out, OwnN.lr HO2.out HP9.out⟩)
            | (with_reducible exact Lib.hid ⟨rfl, PartsAt.drew (PartsAt.rl HP9.out), OwnN.rl HO1.out HP9.out, OwnN.rl HO2.out HP9.out⟩)
      case rest =>
        obtain ⟨h6, hM, hO1, hO2⟩ := hcut.out
        subst h6
        have MU := Lib.hid hM
        have OU1 := Lib.hid hO1
        have OU2 := Lib.hid hO2
        clear hcut hM hO1 hO2
        obtain ⟨t0, t1, t2, t3, t4, t5, t6, t7⟩ := MU.out.l.cells
        obtain ⟨u0, u1, u2, u3, u4, u5, u6, u7⟩ := MU.out.r.cells
        go_wp2
        refine bodyPost_ret (v := .tuple #[.agg #[.int .i64 X.lv, .string X.lo, .string X.hi, .bool X.la, .int .i64 X.nx, .slice ak1 X.ks.length ck1, .slice av1 X.vs.length cv1, .slice ac1 X.cs.length cc1], .agg #[.int .i64 Y.lv, .string Y.lo, .string Y.hi, .bool Y.la, .int .i64 Y.nx, .slice ak2 Y.ks.length ck2, .slice av2 Y.vs.length cv2, .slice ac2 Y.cs.length cc2], .bool true]) (by simp [results, Try.results15, go_sem, *]) rfl ?_
        rw [HT.out, HNO.out, show Nod.or true (Nod.left ⟨lv, nx, lo, hi, la, PP, vs, RR⟩ cell) = X from HXX.out.symm, show Nod.or true (Nod.right ⟨lv, nx, lo, hi, la, PP, vs, RR⟩) = Y from HYY.out.symm]
        exact ⟨_, _, _, _, _, _, _, _, _, _, _, _, rfl, OU1.out.nd, OU2.out.nd, MU.out.below⟩
end Go.Proofs.Ytmkglaghnjnooaa
