/- leafs.Pairs: the pairs of a node's rows. Conditions: sizes that fit. The leaves of a tree as it should be: they follow one another, rise, and tile all texts; a tree agrees with what all of them have together, and with no row that lacks something of it. No walk. A range over a function whose loop variable stands in a box of its own, and whose body keeps a row of its own of a type that the iterator has nothing of. No condition. The iterator of whole.tree.leaves: the leaves of a tree as it should be, one behind the other. Condition: the tree is made; its numbers are numbers. The iterator of whole.tree.leaves, walked. Condition: the tree is made and as it should be; its numbers are numbers. -/
import Derived.Test.YtgaacoeggikbpaaPqa
import Derived.Deep.RegionHeldLaw
import Derived.Deep.DeepCutAuto
import Derived.Test.YtgaacoeggikbpaaPq8
import Derived.Test.YtgaacoeggikbpaaPq9
import Derived.RangeFuncNested
import Derived.Test.YtgaacoeggikbpaaPq1
import Derived.RangeFuncBound
import Derived.RangeFuncCalls
import Derived.RangeFuncLeaves
import Derived.Shelf.Abstract
import Derived.Shelf.RegionOpen
import Derived.WalkKit
import Derived.OwnWalkIn
import Derived.TacticsInMore
import Derived.LoopNIn
import Derived.LoopIn
namespace Go.Proofs.Ytgaacoeggikbpaa
open Go.RowKit

/-- The pairs of two rows. -/
def prs (ks : List ByteArray) (vs : List Nat) : List (ByteArray × Int) := List.zipWith (fun (k : ByteArray) (v : Nat) => (k, (v : Int))) ks vs
theorem prs_len {ks : List ByteArray} {vs : List Nat} (h : vs.length = ks.length) : (prs ks vs).length = ks.length := by
  unfold prs; rw [List.length_zipWith, h, Nat.min_self]
theorem prs_at {ks : List ByteArray} {vs : List Nat} (h : vs.length = ks.length) (i : Nat) (hi : i < ks.length) : ntp (prs ks vs) i = (nth ks i, (nu vs i : Int)) := by
  rw [ntp_eq (by rw [prs_len h]; exact hi), nth_eq hi, nu_eq (by omega)]
  unfold prs
  rw [List.getElem_zipWith]
theorem ones2 (s : ByteArray) (z : Int) : ∀ u ∈ [Value.string s, .int .u64 z], u.oneCell' = true := by
  intro u hu; simp at hu; rcases hu with rfl | rfl <;> rfl
def mAll : ByteArray → Bool := fun _ => true
theorem prs_min (ks : List ByteArray) (vs : List Nat) : (prs ks vs).length = min ks.length vs.length := by unfold prs; rw [List.length_zipWith]
theorem prs_nth {ks : List ByteArray} {vs : List Nat} (i : Nat) (hk : i < ks.length) (hv : i < vs.length) : ntp (prs ks vs) i = (nth ks i, (nu vs i : Int)) := by
  rw [ntp_eq (by rw [prs_min]; omega), nth_eq hk, nu_eq hv]
  unfold prs
  rw [List.getElem_zipWith]
theorem filt_more (ss : List (ByteArray × Int)) (m : ByteArray → Bool) (i : Nat) (hi : i < ss.length) : (ss.take (i + 1)).filter (fun p => m p.1) = (ss.take i).filter (fun p => m p.1) ++ (if m (ntp ss i).1 then [((ntp ss i).1, (ntp ss i).2)] else []) := by
  rw [List.take_succ_eq_append_getElem hi, List.filter_append, ntp_eq hi]
  by_cases h : m ss[i].1 = true <;> simp [h]
theorem filt_take_len (ss : List (ByteArray × Int)) (m : ByteArray → Bool) (i : Nat) : ((ss.take i).filter (fun p => m p.1)).length ≤ ss.length := by
  refine Nat.le_trans (List.length_filter_le _ _) ?_
  rw [List.length_take]; omega

theorem inAll_any (x : ByteArray) (w : World) : Calls Try.prog 31 #[.string x] w fun e w' => e = .returned (.bool (mAll x)) ∧ Drew w w' := by
  go_enter Try.func31, Try.ntmps31
  go_wp2
  go_ret
  exact ⟨rfl, Drew.refl _⟩
set_option maxHeartbeats 2000000 in
set_option maxRecDepth 100000 in
theorem thoseAll_any (lv nx : Int) (lo hi : ByteArray) (la : Bool) (ak av ac : Option Addr) (ck cv cc : Nat) (ks : List ByteArray) (vs : List Nat) (cs : List Int)  (w : World) (hN : NdAt w ak av ac ks.length ck vs.length cv cs.length cc ks vs cs) (hn : ks.length ≤ 274877906943) (hz : ∀ x ∈ ks, x.size ≤ 140737488355328) (_ : True) :
    Calls Try.prog 30 #[.agg #[.int .i64 lv, .string lo, .string hi, .bool la, .int .i64 nx, .slice ak ks.length ck, .slice av vs.length cv, .slice ac cs.length cc], .func (.func 31) #[] #[]] w fun e w' => DelGives w w' e ((prs ks vs).filter (fun p => mAll p.1)) := by
  have HPM : Hid (∀ W, Below w.heap.size w W → True) := Lib.hid (fun _ _ => trivial)
  have HCL := Lib.hid (fun x W (hx : x.size ≤ 140737488355328) (hw : True) => (inAll_any x W))
  have HB := Lib.hid (boxed_below w (.cells #[.int .i64 lv, .string lo, .string hi, .bool la, .int .i64 nx, .slice ak ks.length ck, .slice av vs.length cv, .slice ac cs.length cc] 38))
  have HNB := Lib.hid (NB.new w #[.int .i64 lv, .string lo, .string hi, .bool la, .int .i64 nx, .slice ak ks.length ck, .slice av vs.length cv, .slice ac cs.length cc])
  obtain ⟨w1, hw1⟩ : ∃ w1, w1 = w.alloc (.cells #[.int .i64 lv, .string lo, .string hi, .bool la, .int .i64 nx, .slice ak ks.length ck, .slice av vs.length cv, .slice ac cs.length cc] 38) := ⟨_, rfl⟩
  rw [← hw1] at HB HNB
  have HW1 := Lib.hid hw1
  have HND := Lib.hid hN
  have HPA := Lib.hid (fun i hk hv => prs_nth (ks := ks) (vs := vs) i hk hv)
  have HFM := Lib.hid (filt_more (prs ks vs) (mAll))
  have HFL := Lib.hid (filt_take_len (prs ks vs) (mAll))
  obtain ⟨n, hn2⟩ : ∃ n, n = (prs ks vs).length := ⟨_, rfl⟩
  have hnm : n = min ks.length vs.length := by rw [hn2, prs_min]
  have HF : Hid ((prs ks vs).take n = prs ks vs) := Lib.hid (by rw [hn2]; exact List.take_length)
  have HSZ : Hid (∀ i, i < ks.length → (nth ks i).size ≤ 140737488355328) := Lib.hid (fun i hi => by rw [nth_eq hi]; exact hz _ (List.getElem_mem _))
  rw [← hn2] at HFM HFL
  obtain ⟨i0, hi, hz0, hz1, hz2⟩ := info_parts infoPair
  have HI := Lib.hid (show _ ∧ _ ∧ _ ∧ _ from ⟨hi, hz0, hz1, hz2⟩)
  obtain ⟨q0, q1, q2, q3, q4, q5, q6, q7⟩ := HNB.out.cells
  have HNM := Lib.hid hnm
  clear hN hi hz0 hz1 hz2 hw1 hn2 hnm hz
  generalize prs ks vs = ss at *
  generalize mAll = m at *
  have hcase : (n = ks.length ∧ ks.length ≤ vs.length) ∨ (n = vs.length ∧ vs.length < ks.length) := by have := HNM.out; omega
  rcases hcase with ⟨hn1, hn2⟩ | ⟨hn1, hn2⟩
  all_goals
    have hn3 : (ks.length : Int) ≤ vs.length ∨ (vs.length : Int) < ks.length := by omega
    have HN1 := Lib.hid hn1
    have HN2 := Lib.hid hn2
    (first | (have hn4 : (ks.length : Int) ≤ vs.length := by omega) | (have hn4 : (vs.length : Int) < ks.length := by omega))
    clear hn1 hn2 hn3
    go_enter Try.func30, Try.ntmps30
    go_wp2
    rw [← HW1.out]
    clear q0 q1 q2 q3 q4 q5 q6 q7 hn4
    go_loopw [5, 14] (fun out s wr => ∃ i : Nat, s = .int .i64 i ∧ i ≤ n ∧ Hid (OwnP wr (w.heap.size + 1) out ((ss.take i).filter (fun p => m p.1))) ∧ Hid (NB wr w.heap.size #[.int .i64 lv, .string lo, .string hi, .bool la, .int .i64 nx, .slice ak ks.length ck, .slice av vs.length cv, .slice ac cs.length cc]) ∧ Hid (Below w.heap.size w wr)) (fun _ s _ => n - (intOf s).toNat)
    case atStart => exact ⟨0, rfl, Nat.zero_le _, Lib.hid (OwnP.nil _ _), HNB, HB⟩
    case round =>
      obtain ⟨i, rfl, hle, hO, hNB, hb⟩ := hrel
      obtain ⟨q0, q1, q2, q3, q4, q5, q6, q7⟩ := hNB.out.cells
      by_cases hlt : i < n
      · have hlk : i < ks.length := by have := HNM.out; omega
        have hlv : i < vs.length := by have := HNM.out; omega
        obtain ⟨oo, oc, ho⟩ := hO.out.open
        obtain ⟨N, hN⟩ : ∃ N, N = ((ss.take i).filter (fun p => m p.1)).length := ⟨_, rfl⟩
        have hNn : N ≤ n := by rw [hN]; exact HFL.out i
        have hNb : N ≤ 274877906943 := by have := HNM.out; omega
        rw [← hN] at ho
        subst ho
        obtain ⟨gk, ok, rfl, hck⟩ := rd_at (HND.out.k) ⟨#[]⟩ i hlk
        obtain ⟨gv, ov, rfl, hcv⟩ := rd_at (HND.out.v) 0 i hlv
        have HKR := Lib.hid (And.intro (hck i hlk) (hcv i hlv))
        have hpa := HPA.out i hlk hlv
        have hfm := HFM.out i hlt
        have hsz := HSZ.out i hlk
        rw [hpa] at hfm
        simp only at hfm
        have HNL := Lib.hid hN
        clear hpa hck hcv hN
        have g1 : (i : Int) < ks.length := by omega
        have g2 : (i : Int) < vs.length := by omega
        unfold uv at HKR
        rw [show ks.getD i ⟨#[]⟩ = nth ks i from rfl, show vs.getD i 0 = nu vs i from rfl] at HKR
        generalize nth ks i = s at *
        generalize nu vs i = z at *
        have HC : Hid (∀ V, NB V w.heap.size #[.int .i64 lv, .string lo, .string hi, .bool la, .int .i64 nx, .slice (some ⟨gk, ok, none⟩) ks.length ck, .slice (some ⟨gv, ov, none⟩) vs.length cv, .slice ac cs.length cc] → Below w.heap.size w V → (V.cell? ⟨w.heap.size, 5, none⟩ = some (.slice (some ⟨gk, ok, none⟩) ks.length ck) ∧ V.cell? ⟨w.heap.size, 6, none⟩ = some (.slice (some ⟨gv, ov, none⟩) vs.length cv) ∧ V.cell? ⟨gk, ok + i, none⟩ = some (.string s) ∧ V.cell? ⟨gv, ov + i, none⟩ = some (.int .u64 z))) := Lib.hid (fun V hn hb2 => by
          obtain ⟨e0, e1, e2, e3, e4, e5, e6, e7⟩ := hn.cells
          have l1 := World.block_lt_of_cell? w _ HKR.out.1
          have l2 := World.block_lt_of_cell? w _ HKR.out.2
          exact ⟨e5, e6, (hb2.cell (p := ⟨gk, ok + i, none⟩) l1).trans HKR.out.1, (hb2.cell (p := ⟨gv, ov + i, none⟩) l2).trans HKR.out.2⟩)
        obtain ⟨c5, c6, c7, c8⟩ := HC.out wr hNB.out hb.out
        have HCALL := Lib.hid (HCL.out s wr hsz (HPM.out wr hb.out))
        cases hms : m s with
        | false =>
          rw [hms] at HCALL hfm
          have HFE := Lib.hid hfm
          clear hfm
          go_wp2_with fail
          refine HCALL.out.mono ?_
          rintro e wd ⟨rfl, hd⟩
          have HB9 := Lib.hid (hb.out.trans ((drew_below hd _).mono hb.out.size))
          have HN9 := Lib.hid (hNB.out.below (drew_below hd _))
          have HO9 := Lib.hid (hO.out.keep (drew_below hd _))
          clear hd q0 q1 q2 q3 q4 q5 q6 q7 c5 c6 c7 c8
          go_wp2
          go_roundw
          case rel => exact ⟨i + 1, by go_num, by omega, Lib.hid (by rw [HFE.out]; simpa using HO9.out), HN9, HB9⟩
          case measure => simp [intOf]; omega
        | true =>
          rw [hms] at HCALL hfm
          have HFE := Lib.hid hfm
          clear hfm
          go_wp2_with fail
          refine HCALL.out.mono ?_
          rintro e wd ⟨rfl, hd⟩
          have HB8 := Lib.hid (hb.out.trans ((drew_below hd _).mono hb.out.size))
          have HN8 := Lib.hid (hNB.out.below (drew_below hd _))
          have HO8 := Lib.hid (hO.out.keep (drew_below hd _))
          clear hd q0 q1 q2 q3 q4 q5 q6 q7 c5 c6 c7 c8
          have hS0 := HC.out wd.drew HN8.out HB8.out.drew
          have hB1 : Below wd.heap.size wd (wd.drew.alloc (.cells #[.string s, .int .u64 z] 32)) := (Below.refl wd.heap.size wd).drew.alloc (Nat.le_refl _) _
          have hS1 := HC.out _ (HN8.out.below hB1) (HB8.out.trans (hB1.mono HB8.out.size))
          have HO1 : Hid ((wd.drew.alloc (.cells #[.string s, .int .u64 z] 32)).ownsRow (w.heap.size + 1) 32 2 (.slice oo N oc) N (pcells ((ss.take i).filter (fun p => m p.1)))) := Lib.hid (by have h5 := HO8.out.keep hB1; unfold OwnP at h5; rw [← HNL.out] at h5; exact h5)
          have HX1 := Lib.hid (HN8.out.below hB1)
          have HB2 := Lib.hid (HB8.out.trans (hB1.mono HB8.out.size))
          have hsz2 : w.heap.size + 1 ≤ wd.heap.size := by have := lt_of_block HN8.out; omega
          clear hB1
          go_wp2
          go_region_held_law (fun V => (V.cell? ⟨w.heap.size, 5, none⟩ = some (.slice (some ⟨gk, ok, none⟩) ks.length ck) ∧ V.cell? ⟨w.heap.size, 6, none⟩ = some (.slice (some ⟨gv, ov, none⟩) vs.length cv) ∧ V.cell? ⟨gk, ok + i, none⟩ = some (.string s) ∧ V.cell? ⟨gv, ov + i, none⟩ = some (.int .u64 z)))
            (first | exact hS0 | exact hS1 | exact hS9 | assumption)
            (first | (refine step_append_lies _ rfl (.tmp 24) (.tmp 36) 26 rfl (w.heap.size + 1) 32 i0 (.agg #[.string ⟨#[]⟩, .int .u64 0]) 2 24 Try.underlying26 HI.out.1 HI.out.2.1 HI.out.2.2.1 HI.out.2.2.2 rfl (by decide) (.slice oo N oc) N (pcells ((ss.take i).filter (fun p => m p.1))) (by simp [Act.eval]) HO1.out ⟨wd.heap.size, 0, none⟩ 1 1 [.string s, .int .u64 z] (by simp [Act.eval]) rfl (two_news _ _ _ _) (ones2 _ _) (by omega) (by unfold maxLen; omega) (by omega) (by simp; omega) _ rfl ?_; intro g cap w9 hown9 hgrow9 _ _; have N9 := Lib.hid (HX1.out.grown hgrow9 (own_inT HO1.out) (by decide)); have B9 := Lib.hid (HB2.out.grown hgrow9 HB2.out.size (fun k hk => Nat.le_of_succ_le (HO1.out.lt k hk).1)); have O9 : Hid (OwnP w9 (w.heap.size + 1) (.slice (some ⟨g, 0, none⟩) (N + 1) cap) ((ss.take i).filter (fun p => m p.1) ++ [(s, (z : Int))])) := Lib.hid (OwnP.more (by rw [← HNL.out]; exact hown9)); have hS9 := HC.out w9 N9.out B9.out; clear hown9 hgrow9))
          go_wp2
          go_roundw
          case rel => exact ⟨i + 1, by go_num, by omega, Lib.hid (by rw [HFE.out]; exact O9.out), N9, B9⟩
          case measure => simp [intOf]; omega
      · obtain rfl : i = n := by omega
        have HO9 := Lib.hid hO.out
        rw [HF.out] at HO9
        (first | (have g3 : ¬ (i : Int) < (ks.length : Int) := by have := HN1.out; omega) | (have g3 : ¬ (i : Int) < (vs.length : Int) := by have := HN1.out; omega))
        go_wp2
        go_ret
        exact ⟨_, rfl, HO9.out.base (by omega), hb.out⟩

theorem filt_all (ss : List (ByteArray × Int)) : ss.filter (fun p => mAll p.1) = ss := by
  rw [List.filter_eq_self]; intro p _; rfl
set_option maxHeartbeats 2000000 in
theorem lpairs_any (lv nx : Int) (lo hi : ByteArray) (la : Bool) (ak av ac : Option Addr) (ck cv cc : Nat) (ks : List ByteArray) (vs : List Nat) (cs : List Int) (w : World) (hN : NdAt w ak av ac ks.length ck vs.length cv cs.length cc ks vs cs) (hn : ks.length ≤ 274877906943) (hz : ∀ x ∈ ks, x.size ≤ 140737488355328) :
    Calls Try.prog 17 #[.agg #[.int .i64 lv, .string lo, .string hi, .bool la, .int .i64 nx, .slice ak ks.length ck, .slice av vs.length cv, .slice ac cs.length cc]] w fun e w' => DelGives w w' e (prs ks vs) := by
  have HB := Lib.hid (boxed_below w (.cells #[.int .i64 lv, .string lo, .string hi, .bool la, .int .i64 nx, .slice ak ks.length ck, .slice av vs.length cv, .slice ac cs.length cc] 38))
  have HNB := Lib.hid (NB.new w #[.int .i64 lv, .string lo, .string hi, .bool la, .int .i64 nx, .slice ak ks.length ck, .slice av vs.length cv, .slice ac cs.length cc])
  have HT := Lib.hid (thoseAll_any lv nx lo hi la ak av ac ck cv cc ks vs cs _ (hN.keep HB.out) hn hz trivial)
  rw [filt_all] at HT
  obtain ⟨q0, q1, q2, q3, q4, q5, q6, q7⟩ := HNB.out.cells
  clear hN hn hz
  go_enter Try.func17, Try.ntmps17
  go_wp2_with fail
  refine HT.out.mono ?_
  rintro e w2 ⟨u, rfl, ho, hb⟩
  have HO := Lib.hid (ho.base HB.out.size)
  have HB2 := Lib.hid (HB.out.trans (hb.mono HB.out.size))
  clear ho hb
  go_wp2
  go_ret
  exact ⟨u, rfl, HO.out, HB2.out⟩

end Go.Proofs.Ytgaacoeggikbpaa

namespace Go.Proofs.Ytgaacoeggikbpaa
open Go.RowKit Go.Maps

/-- Does a tree agree with pairs? -/
def AgP (ks : List Kn) (ps : List (ByteArray × Int)) : Prop := RisP ps ∧ ∀ j, j < ks.length → (decide ((kAt ks j).n.lv = 0) && soundB 64 (kAt ks j).n) = true → prs (kAt ks j).n.ks (kAt ks j).n.vs = ps.filter (fun p => insideB (kAt ks j).n.lo.data.toList (kAt ks j).n.hi.data.toList (kAt ks j).n.la p.1.data.toList)
/-- A tree as it should be, but that nodes may be thin. -/
structure TreeP (ks : List Kn) : Prop where
  nd : NdOk 64 ks
  tr : TrE ks
theorem SoundP.to64 {fan : Int} {n : Nod} (h : n.Sound fan) (hf : fan ≤ 64) : n.Sound 64 := ⟨h.level, h.range, ⟨by have := h.keys.many; omega, h.keys.rise, h.keys.inn⟩, h.entries⟩
theorem WholeP.tree {fan : Int} {ks : List Kn} (h : WholeP fan ks) : TreeP ks :=
  ⟨⟨h.2.1.1, fun j hj => ⟨(h.2.1.2 j hj).1, (h.2.1.2 j hj).2.1, (soundB_iff 64 _).2 ⟨by omega, SoundP.to64 ((soundB_iff fan _).1 (h.2.1.2 j hj).2.2).2 h.1.2⟩⟩⟩, h.2.2.e⟩
/-- Does a node's range have a text? -/
def inn (n : Nod) (x : List UInt8) : Bool := insideB n.lo.data.toList n.hi.data.toList n.la x
theorem inn_lo {n : Nod} {x : List UInt8} (h : inn n x = true) : lss x n.lo.data.toList = false := by
  unfold inn insideB at h
  simp only [Bool.and_eq_true, Bool.not_eq_true'] at h
  exact h.1
theorem inn_hi {n : Nod} {x : List UInt8} (h : inn n x = true) (hl : n.la = false) : lss x n.hi.data.toList = true := by
  unfold inn insideB at h
  rw [hl] at h
  simp only [Bool.and_eq_true, Bool.false_or] at h
  exact h.2
theorem inn_of {n : Nod} {x : List UInt8} (h : lss x n.lo.data.toList = false) (h2 : n.la = false → lss x n.hi.data.toList = true) : inn n x = true := by
  unfold inn insideB
  rw [h]
  cases e : n.la with
  | true => rfl
  | false => rw [h2 e]; rfl
theorem kfind_at15 {ks : List Kn} {c : Int} {k : Kn} (h : kfind ks c = some k) : (∃ j, j < ks.length ∧ kAt ks j = k) ∧ k.c = c := by
  unfold kfind at h
  obtain ⟨j, hj, e⟩ := List.getElem_of_mem (List.mem_of_find?_eq_some h)
  exact ⟨⟨j, hj, by rw [kAt_eq hj]; exact e⟩, by simpa using List.find?_some h⟩
section
variable {ks : List Kn}
theorem NdOk.self {fan : Int} (h : NdOk fan ks) {j : Nat} (hj : j < ks.length) : kfind ks (kAt ks j).c = Option.some (kAt ks j) :=
  kfind_at hj rfl (fun i hi e => by
    have h1 := h.one hj
    unfold kfind at h1
    have h2 := List.find?_eq_none.1 h1 (kAt ks i) (by rw [kAt_eq (by omega)]; exact List.mem_take_iff_getElem.2 ⟨i, by omega, rfl⟩)
    exact h2 (decide_eq_true e))
theorem TreeP.sound (h : TreeP ks) {c : Int} {k : Kn} (hk : kfind ks c = some k) : k.n.Sound 64 := by
  obtain ⟨⟨j, hj, rfl⟩, _⟩ := kfind_at15 hk
  exact ((soundB_iff 64 _).1 (h.nd.2 j hj).2.2).2
theorem TreeP.reach (h : TreeP ks) {c : Int} {k : Kn} (hk : kfind ks c = some k) : Rch ks c := by
  obtain ⟨⟨j, hj, rfl⟩, hc⟩ := kfind_at15 hk
  rw [← hc]
  exact (h.tr j hj).2.2.2
theorem TreeP.root (h : TreeP ks) : ∃ k, kfind ks 0 = some k ∧ k.n.lo.size = 0 ∧ k.n.la = true := by
  have h1 := h.nd.1
  unfold cnt at h1
  obtain ⟨k0, hk0, hc0⟩ := List.countP_pos_iff.1 h1
  cases hk : kfind ks 0 with
  | none =>
    unfold kfind at hk
    exact absurd hc0 (List.find?_eq_none.1 hk k0 hk0)
  | some kr =>
    obtain ⟨⟨j, hj, rfl⟩, hc⟩ := kfind_at15 hk
    have hr := (h.tr j hj).1 hc
    unfold rootP at hr
    simp only [Bool.and_eq_true, decide_eq_true_eq] at hr
    exact ⟨_, rfl, hr.1, hr.2.1⟩
theorem TreeP.next (h : TreeP ks) {c : Int} {k : Kn} (hk : kfind ks c = some k) (hl : k.n.la = false) : ∃ m, kfind ks k.n.nx = some m ∧ m.n.lv = k.n.lv ∧ m.n.lo = k.n.hi := by
  obtain ⟨⟨j, hj, rfl⟩, hc⟩ := kfind_at15 hk
  have h1 := (h.tr j hj).2.2.1 hl
  unfold goesP nodOf at h1
  simp only [Bool.and_eq_true, decide_eq_true_eq] at h1
  obtain ⟨m, hm⟩ := Option.isSome_iff_exists.1 h1.1
  rw [hm] at h1
  exact ⟨m, hm, h1.2.1, h1.2.2⟩
theorem TreeP.kid (h : TreeP ks) {c : Int} {k : Kn} (hk : kfind ks c = some k) {i : Nat} (hi : i < k.n.cs.length) :
    ∃ m, kfind ks (ni k.n.cs i) = some m ∧ m.n.lv = k.n.lv - 1 ∧ ni k.n.cs i ≠ 0 ∧ m.n.lo = nth k.n.ks i ∧ m.n.hi = (if i + 1 < k.n.ks.length then nth k.n.ks (i + 1) else k.n.hi) ∧ m.n.la = (if i + 1 < k.n.ks.length then false else k.n.la) := by
  obtain ⟨⟨j, hj, rfl⟩, hc⟩ := kfind_at15 hk
  obtain ⟨h1, h2⟩ := (h.tr j hj).2.1 i hi
  unfold strK strayP at h1
  unfold fitK fitP at h2
  simp only [Bool.or_eq_false_iff, Bool.not_eq_false', decide_eq_false_iff_not, Classical.not_not, Bool.and_eq_true, decide_eq_true_eq] at h1 h2
  obtain ⟨m, hm⟩ := Option.isSome_iff_exists.1 h1.1
  have hnod : nodOf ks (ni (kAt ks j).n.cs i) = m.n := by unfold nodOf; rw [hm]
  rw [hnod] at h1 h2
  exact ⟨m, hm, h1.2.1, h1.2.2.1, h2.1.symm, h2.2.1.symm, h2.2.2.symm⟩
/-- A node that has kids is an inner one. -/
theorem sound_inner {n : Nod} (h : n.Sound 64) (hc : 0 < n.cs.length) : n.lv ≠ 0 := fun e => by
  have := (h.entries.leaf e).2.1
  omega
theorem kid_covers (h : TreeP ks) {c : Int} {k m : Kn} (hk : kfind ks c = some k) {i : Nat} (hi : i < k.n.cs.length) (hm : kfind ks (ni k.n.cs i) = some m) {x : List UInt8} (hx : inn m.n x = true) : inn k.n x = true := by
  have hs := h.sound hk
  have hen := hs.entries.inner (sound_inner hs (by omega))
  obtain ⟨m2, hm2, _, _, e1, e2, e3⟩ := h.kid hk hi
  rw [hm] at hm2
  cases hm2
  have hlo := inn_lo hx
  rw [e1] at hlo
  have h1 : inn k.n (nth k.n.ks i).data.toList = true := hs.keys.inn i (by omega)
  refine inn_of (lss_nt _ _ _ hlo (inn_lo h1)) (fun hl => ?_)
  by_cases hi2 : i + 1 < k.n.ks.length
  · rw [if_pos hi2] at e2 e3
    have h2 := inn_hi hx e3
    rw [e2] at h2
    exact lss_trans _ _ _ h2 (inn_hi (hs.keys.inn (i + 1) hi2 : inn k.n _ = true) hl)
  · rw [if_neg hi2] at e2 e3
    have h2 := inn_hi hx (by rw [e3]; exact hl)
    rw [e2] at h2
    exact h2
theorem kid_lt (h : TreeP ks) {c : Int} {k m m' : Kn} (hk : kfind ks c = some k) {i i' : Nat} (hi : i < k.n.cs.length) (hi' : i' < k.n.cs.length) (hm : kfind ks (ni k.n.cs i) = some m) (hm' : kfind ks (ni k.n.cs i') = some m') {x : List UInt8} (hx : inn m.n x = true) (hx' : inn m'.n x = true) : ¬ i < i' := fun hlt => by
  have hs := h.sound hk
  have hen := hs.entries.inner (sound_inner hs (by omega))
  obtain ⟨m2, hm2, _, _, e1, e2, e3⟩ := h.kid hk hi
  obtain ⟨m3, hm3, _, _, f1, _, _⟩ := h.kid hk hi'
  rw [hm] at hm2
  rw [hm'] at hm3
  cases hm2
  cases hm3
  have hi2 : i + 1 < k.n.ks.length := by omega
  rw [if_pos hi2] at e2 e3
  have h1 := inn_hi hx e3
  have h2 := inn_lo hx'
  rw [e2] at h1
  rw [f1] at h2
  by_cases e : i + 1 = i'
  · rw [e, h2] at h1
    cases h1
  · have h3 := hs.keys.rise.lt (i + 1) i' (by omega) (by omega)
    rw [← nth_eq hi2, ← nth_eq (by omega : i' < k.n.ks.length)] at h3
    have := lss_trans _ _ _ h1 h3
    rw [h2] at this
    cases this
theorem rch_inv {c : Int} (h : Rch ks c) : c = 0 ∨ ∃ p k i, kfind ks p = some k ∧ Rch ks p ∧ i < k.n.cs.length ∧ ni k.n.cs i = c := by
  cases h with
  | root => exact Or.inl rfl
  | @kid p _ hp hk =>
    unfold nk nodOf at hk
    cases e : kfind ks p with
    | none => rw [e] at hk; cases hk
    | some k =>
      rw [e] at hk
      obtain ⟨i, hi, e2⟩ := List.getElem_of_mem hk
      exact Or.inr ⟨p, k, i, e, hp, hi, by rw [ni_eq hi]; exact e2⟩
theorem TreeP.below (h : TreeP ks) {kr : Kn} (hr : kfind ks 0 = some kr) {c : Int} (hc : Rch ks c) : ∀ k, kfind ks c = some k → k.n.lv ≤ kr.n.lv ∧ (c ≠ 0 → k.n.lv < kr.n.lv) := by
  induction hc with
  | root => exact fun k hk => by rw [hr] at hk; cases hk; exact ⟨Int.le_refl _, fun h => absurd rfl h⟩
  | @kid p x hp hx ih =>
    intro m hm
    unfold nk nodOf at hx
    cases e : kfind ks p with
    | none => rw [e] at hx; cases hx
    | some k =>
      rw [e] at hx
      obtain ⟨i, hi, e2⟩ := List.getElem_of_mem hx
      obtain ⟨m2, hm2, hl, _⟩ := h.kid e hi
      rw [ni_eq hi, e2, hm] at hm2
      cases hm2
      have := (ih k e).1
      omega
/-- Of two nodes of one level that have a text in common, one is the other. -/
theorem TreeP.one (h : TreeP ks) {kr : Kn} (hr : kfind ks 0 = some kr) : ∀ (d : Nat) (a b : Int) (ka kb : Kn) (x : List UInt8), kfind ks a = some ka → kfind ks b = some kb → ka.n.lv = kr.n.lv - d → kb.n.lv = kr.n.lv - d → inn ka.n x = true → inn kb.n x = true → a = b := by
  intro d
  induction d with
  | zero =>
    intro a b ka kb x ha hb la lb _ _
    have h1 := h.below hr (h.reach ha) ka ha
    have h2 := h.below hr (h.reach hb) kb hb
    by_cases e1 : a = 0
    · by_cases e2 : b = 0
      · omega
      · have := h2.2 e2; omega
    · have := h1.2 e1; omega
  | succ d ih =>
    intro a b ka kb x ha hb la lb xa xb
    rcases rch_inv (h.reach ha) with e | ⟨p, kp, i, hp, _, hi, ei⟩
    · subst e
      rw [hr] at ha
      cases ha
      omega
    rcases rch_inv (h.reach hb) with e | ⟨q, kq, j, hq, _, hj, ej⟩
    · subst e
      rw [hr] at hb
      cases hb
      omega
    obtain ⟨m1, hm1, l1, _⟩ := h.kid hp hi
    obtain ⟨m2, hm2, l2, _⟩ := h.kid hq hj
    have g1 : kfind ks (ni kp.n.cs i) = some ka := by rw [ei]; exact ha
    have g2 : kfind ks (ni kq.n.cs j) = some kb := by rw [ej]; exact hb
    rw [g1] at hm1
    rw [g2] at hm2
    cases hm1
    cases hm2
    have hpq := ih p q kp kq x hp hq (by omega) (by omega) (kid_covers h hp hi g1 xa) (kid_covers h hq hj g2 xb)
    subst hpq
    rw [hp] at hq
    cases hq
    have n1 := kid_lt h hp hi hj g1 g2 xa xb
    have n2 := kid_lt h hp hj hi g2 g1 xb xa
    obtain rfl : i = j := by omega
    rw [← ei, ← ej]
theorem TreeP.same (h : TreeP ks) {a b : Int} {ka kb : Kn} {x : List UInt8} (ha : kfind ks a = some ka) (hb : kfind ks b = some kb) (hl : ka.n.lv = kb.n.lv) (xa : inn ka.n x = true) (xb : inn kb.n x = true) : a = b := by
  obtain ⟨kr, hr, _⟩ := h.root
  have h1 := (h.below hr (h.reach ha) ka ha).1
  exact h.one hr (kr.n.lv - ka.n.lv).toNat a b ka kb x ha hb (by omega) (by omega) xa xb

/-- Nodes that follow one another, to the last one. -/
inductive Chn (ks : List Kn) : Int → List Kn → Prop
  | last {c : Int} {k : Kn} : kfind ks c = some k → k.n.la = true → Chn ks c [k]
  | more {c : Int} {k : Kn} {l : List Kn} : kfind ks c = some k → k.n.la = false → Chn ks k.n.nx l → Chn ks c (k :: l)
theorem Chn.in_ (h : TreeP ks) {c : Int} {l : List Kn} (hc : Chn ks c l) : ∀ k, kfind ks c = some k → ∀ m ∈ l, kfind ks m.c = some m ∧ m.n.lv = k.n.lv ∧ lss m.n.lo.data.toList k.n.lo.data.toList = false := by
  induction hc with
  | last hk _ =>
    intro k2 hk2 m hm
    rw [hk] at hk2
    cases hk2
    rw [List.mem_singleton.1 hm, (kfind_at15 hk).2]
    exact ⟨hk, rfl, lss_irrefl _⟩
  | more hk hl _ ih =>
    intro k2 hk2 m hm
    rw [hk] at hk2
    cases hk2
    rcases List.mem_cons.1 hm with rfl | hm
    · rw [(kfind_at15 hk).2]
      exact ⟨hk, rfl, lss_irrefl _⟩
    · obtain ⟨m2, g1, g2, g3⟩ := h.next hk hl
      obtain ⟨i1, i2, i3⟩ := ih m2 g1 m hm
      refine ⟨i1, i2.trans g2, ?_⟩
      rw [g3] at i3
      have hr := ((h.sound hk).range.more hl).2.1
      exact lss_nt _ _ _ i3 (lss_asymm _ _ hr)
theorem Chn.covers (h : TreeP ks) {c : Int} {l : List Kn} (hc : Chn ks c l) : ∀ k, kfind ks c = some k → ∀ x, lss x k.n.lo.data.toList = false → ∃ m ∈ l, inn m.n x = true := by
  induction hc with
  | last hk hl =>
    intro k2 hk2 x hx
    rw [hk] at hk2
    cases hk2
    exact ⟨_, List.mem_singleton.2 rfl, inn_of hx (fun e => by rw [hl] at e; cases e)⟩
  | @more c k l hk hl _ ih =>
    intro k2 hk2 x hx
    rw [hk] at hk2
    cases hk2
    cases e : lss x k.n.hi.data.toList with
    | true => exact ⟨_, List.mem_cons_self .., inn_of hx (fun _ => e)⟩
    | false =>
      obtain ⟨m2, g1, g2, g3⟩ := h.next hk hl
      obtain ⟨m, hm, hx2⟩ := ih m2 g1 x (by rw [g3]; exact e)
      exact ⟨m, List.mem_cons_of_mem _ hm, hx2⟩
/-- The leftmost leaf. -/
def First (ks : List Kn) (c : Int) : Prop := ∃ k, kfind ks c = some k ∧ k.n.lv = 0 ∧ k.n.lo.size = 0
theorem lss_size0 {x : List UInt8} {a : ByteArray} (h : a.size = 0) : lss x a.data.toList = false := by
  have h2 : a.data.toList = [] := List.eq_nil_of_length_eq_zero (by rw [Array.length_toList]; exact h)
  rw [h2]
  cases x <;> rfl
theorem Chn.has (h : TreeP ks) {c : Int} {l : List Kn} (hc : Chn ks c l) (hf : First ks c) {a : Int} {k : Kn} (hk : kfind ks a = some k) (hl : k.n.lv = 0) : k ∈ l := by
  obtain ⟨k0, h0, l0, s0⟩ := hf
  obtain ⟨m, hm, hx⟩ := hc.covers h k0 h0 k.n.lo.data.toList (lss_size0 s0)
  obtain ⟨i1, i2, _⟩ := hc.in_ h k0 h0 m hm
  have hlo : inn k.n k.n.lo.data.toList = true := inn_of (lss_irrefl _) (fun e => ((h.sound hk).range.more e).2.1)
  have := h.same i1 hk (by omega) hx hlo
  rw [this, hk] at i1
  cases i1
  exact hm

/-- What nodes have together. -/
def allP (l : List Kn) : List (ByteArray × Int) := l.flatMap (fun k => prs k.n.ks k.n.vs)
theorem allP_more (l : List Kn) (k : Kn) : allP (l ++ [k]) = allP l ++ prs k.n.ks k.n.vs := by
  unfold allP
  rw [List.flatMap_append]
  simp
theorem prs_mem {ks : List ByteArray} {vs : List Nat} (h : vs.length = ks.length) {p : ByteArray × Int} (hp : p ∈ prs ks vs) : ∃ i, i < ks.length ∧ p.1 = nth ks i ∧ p = ntp (prs ks vs) i := by
  obtain ⟨i, hi, rfl⟩ := List.getElem_of_mem hp
  rw [prs_len h] at hi
  have := prs_at h i hi
  rw [ntp_eq (by rw [prs_len h]; exact hi)] at this
  exact ⟨i, hi, by rw [this], by rw [ntp_eq (by rw [prs_len h]; exact hi)]⟩
theorem leaf_len {n : Nod} (h : n.Sound 64) (hl : n.lv = 0) : n.vs.length = n.ks.length := (h.entries.leaf hl).1
theorem prs_inn {n : Nod} (h : n.Sound 64) (hl : n.lv = 0) {p : ByteArray × Int} (hp : p ∈ prs n.ks n.vs) : inn n p.1.data.toList = true := by
  obtain ⟨i, hi, e, _⟩ := prs_mem (leaf_len h hl) hp
  rw [e]
  exact h.keys.inn i hi
def Less2 (p q : ByteArray × Int) : Prop := lss p.1.data.toList q.1.data.toList = true
theorem prs_rise {n : Nod} (h : n.Sound 64) (hl : n.lv = 0) : (prs n.ks n.vs).Pairwise Less2 := by
  rw [List.pairwise_iff_getElem]
  intro i j hi hj hij
  have hi2 := hi
  have hj2 := hj
  rw [prs_len (leaf_len h hl)] at hi hj
  have a1 := prs_at (leaf_len h hl) i hi
  have a2 := prs_at (leaf_len h hl) j hj
  rw [ntp_eq hi2] at a1
  rw [ntp_eq hj2] at a2
  unfold Less2
  rw [a1, a2]
  have := h.keys.rise.lt i j hij hj
  rw [nth_eq hi, nth_eq hj]
  exact this
theorem Chn.low (h : TreeP ks) {c : Int} {l : List Kn} (hc : Chn ks c l) {k : Kn} (hk : kfind ks c = some k) (hl : k.n.lv = 0) : ∀ p ∈ allP l, lss p.1.data.toList k.n.lo.data.toList = false := by
  intro p hp
  obtain ⟨m, hm, hp2⟩ := List.mem_flatMap.1 hp
  obtain ⟨i1, i2, i3⟩ := hc.in_ h k hk m hm
  exact lss_nt _ _ _ (inn_lo (prs_inn (h.sound i1) (by omega) hp2)) i3
theorem Chn.rise (h : TreeP ks) {c : Int} {l : List Kn} (hc : Chn ks c l) : (∃ k, kfind ks c = some k ∧ k.n.lv = 0) → (allP l).Pairwise Less2 := by
  induction hc with
  | @last c k hk _ =>
    rintro ⟨k2, hk2, hl⟩
    rw [hk] at hk2
    cases hk2
    have : allP [k] = prs k.n.ks k.n.vs := by simp [allP]
    rw [this]
    exact prs_rise (h.sound hk) hl
  | @more c k l hk hla hch ih =>
    rintro ⟨k2, hk2, hl⟩
    rw [hk] at hk2
    cases hk2
    obtain ⟨m2, g1, g2, g3⟩ := h.next hk hla
    have : allP (k :: l) = prs k.n.ks k.n.vs ++ allP l := by simp [allP]
    rw [this, List.pairwise_append]
    refine ⟨prs_rise (h.sound hk) hl, ih ⟨m2, g1, by omega⟩, fun p hp q hq => ?_⟩
    have h1 := inn_hi (prs_inn (h.sound hk) hl hp) hla
    have h2 := hch.low h g1 (by omega) q hq
    rw [g3] at h2
    exact lss_lt_le _ _ _ h1 h2
theorem Chn.apart (h : TreeP ks) {c : Int} {l : List Kn} (hc : Chn ks c l) : l.Pairwise (fun a b => a.c ≠ b.c) := by
  induction hc with
  | last _ _ => exact List.pairwise_singleton ..
  | @more c k l hk hla hch ih =>
    rw [List.pairwise_cons]
    refine ⟨fun m hm e => ?_, ih⟩
    obtain ⟨m2, g1, g2, g3⟩ := h.next hk hla
    obtain ⟨i1, _, i3⟩ := hch.in_ h m2 g1 m hm
    rw [← e, (kfind_at15 hk).2, hk] at i1
    cases i1
    rw [g3, ((h.sound hk).range.more hla).2.1] at i3
    cases i3
theorem pairwise_ris {ps : List (ByteArray × Int)} (h : ps.Pairwise Less2) : RisP ps := by
  intro i hi
  rw [List.pairwise_iff_getElem] at h
  have h1 := h i (i + 1) (by omega) hi (by omega)
  unfold Less2 at h1
  rw [ntp_eq (by omega), ntp_eq hi, cmp3_neg]
  exact h1
theorem filt_leaf (h : TreeP ks) {k : Kn} (hk : kfind ks k.c = some k) (hl : k.n.lv = 0) : ∀ l : List Kn, (∀ m ∈ l, kfind ks m.c = some m ∧ m.n.lv = 0) → l.Pairwise (fun a b => a.c ≠ b.c) → ((k ∉ l → (allP l).filter (fun p => inn k.n p.1.data.toList) = []) ∧ (k ∈ l → (allP l).filter (fun p => inn k.n p.1.data.toList) = prs k.n.ks k.n.vs))
  | [], _, _ => ⟨fun _ => rfl, fun h => by cases h⟩
  | m :: l, hin, hpw => by
    rw [List.pairwise_cons] at hpw
    obtain ⟨ih1, ih2⟩ := filt_leaf h hk hl l (fun x hx => hin x (List.mem_cons_of_mem _ hx)) hpw.2
    have e : allP (m :: l) = prs m.n.ks m.n.vs ++ allP l := by simp [allP]
    obtain ⟨hm, hlm⟩ := hin m (List.mem_cons_self ..)
    have hno : m ≠ k → (prs m.n.ks m.n.vs).filter (fun p => inn k.n p.1.data.toList) = [] := fun hne => by
      rw [List.filter_eq_nil_iff]
      intro p hp hx
      have := h.same hm hk (by omega) (prs_inn (h.sound hm) hlm hp) hx
      rw [this, hk] at hm
      cases hm
      exact hne rfl
    rw [e, List.filter_append]
    constructor
    · intro hk2
      rw [hno (fun e => hk2 (by rw [e]; exact List.mem_cons_self ..)), ih1 (fun hx => hk2 (List.mem_cons_of_mem _ hx))]
      rfl
    · intro hk2
      by_cases e2 : m = k
      · subst e2
        rw [ih1 (fun hx => hpw.1 m hx rfl), List.append_nil, List.filter_eq_self]
        exact fun p hp => prs_inn (h.sound hm) hlm hp
      · rcases List.mem_cons.1 hk2 with e3 | hk2
        · exact absurd e3.symm e2
        · rw [hno e2, ih2 hk2]
          rfl
/-- What a tree has. -/
structure Has (ks : List Kn) (l : List Kn) : Prop where
  t : TreeP ks
  ch : ∃ c, First ks c ∧ Chn ks c l
theorem Has.rise {l : List Kn} (h : Has ks l) : (allP l).Pairwise Less2 := by
  obtain ⟨c, ⟨k, h1, h2, _⟩, h3⟩ := h.ch
  exact h3.rise h.t ⟨k, h1, h2⟩
theorem Has.leafs {l : List Kn} (h : Has ks l) : ∀ m ∈ l, kfind ks m.c = some m ∧ m.n.lv = 0 := by
  obtain ⟨c, ⟨k, h1, h2, _⟩, h3⟩ := h.ch
  intro m hm
  obtain ⟨i1, i2, _⟩ := h3.in_ h.t k h1 m hm
  exact ⟨i1, by omega⟩
theorem Has.apart {l : List Kn} (h : Has ks l) : l.Pairwise (fun a b => a.c ≠ b.c) := by
  obtain ⟨c, _, h3⟩ := h.ch
  exact h3.apart h.t
/-- A tree agrees with what it has. -/
theorem Has.agrees {l : List Kn} (h : Has ks l) : AgP ks (allP l) := by
  refine ⟨pairwise_ris h.rise, fun j hj hs => ?_⟩
  simp only [Bool.and_eq_true, decide_eq_true_eq] at hs
  have hk := h.t.nd.self hj
  obtain ⟨c, hf, h3⟩ := h.ch
  exact ((filt_leaf h.t hk hs.1 l h.leafs h.apart).2 (h3.has h.t hf hk hs.1)).symm
/-- And with no row that lacks something of it. -/
theorem Has.lacks {l : List Kn} (h : Has ks l) {p : ByteArray × Int} (hp : p ∈ allP l) {ps : List (ByteArray × Int)} (hno : p ∉ ps) : ¬ AgP ks ps := fun ha => by
  obtain ⟨m, hm, hp2⟩ := List.mem_flatMap.1 hp
  obtain ⟨i1, i2⟩ := h.leafs m hm
  obtain ⟨⟨j, hj, e⟩, _⟩ := kfind_at15 i1
  have h1 := ha.2 j hj (by rw [e, decide_eq_true i2, (soundB_iff 64 m.n).2 ⟨by omega, h.t.sound i1⟩]; rfl)
  rw [e] at h1
  rw [h1] at hp2
  exact hno ((List.mem_filter.1 hp2).1)
theorem less_not {ps : List (ByteArray × Int)} (h : ps.Pairwise Less2) {a : Nat} (ha : a < ps.length) : ntp ps a ∉ ps.take a ++ ps.drop (a + 1) := fun hm => by
  rw [List.pairwise_iff_getElem] at h
  rw [ntp_eq ha] at hm
  have key : ∀ i j (hi : i < ps.length) (hj : j < ps.length), ps[i] = ps[j] → ¬ i < j := fun i j hi hj e hij => by
    have := h i j hi hj hij
    rw [e] at this
    unfold Less2 at this
    rw [lss_irrefl] at this
    cases this
  rcases List.mem_append.1 hm with hm | hm
  · obtain ⟨i, hi, e⟩ := List.getElem_of_mem hm
    rw [List.length_take] at hi
    rw [List.getElem_take] at e
    exact key i a (by omega) ha e (by omega)
  · obtain ⟨i, hi, e⟩ := List.getElem_of_mem hm
    rw [List.length_drop] at hi
    rw [List.getElem_drop] at e
    exact key a (a + 1 + i) ha (by omega) e.symm (by omega)
theorem other_not {ps : List (ByteArray × Int)} (h : ps.Pairwise Less2) {a : Nat} (ha : a < ps.length) {v : Int} (hv : v ≠ (ntp ps a).2) : ntp ps a ∉ ps.set a ((ntp ps a).1, v) := fun hm => by
  rw [List.pairwise_iff_getElem] at h
  obtain ⟨i, hi, e⟩ := List.getElem_of_mem hm
  rw [List.length_set] at hi
  rw [List.getElem_set] at e
  by_cases ei : a = i
  · rw [if_pos ei] at e
    exact hv (by rw [← e])
  · rw [if_neg ei] at e
    replace e : ps[i] = ps[a] := e.trans (ntp_eq ha)
    have key : ∀ i j (hi : i < ps.length) (hj : j < ps.length), ps[i] = ps[j] → ¬ i < j := fun i j hi hj e hij => by
      have := h i j hi hj hij
      rw [e] at this
      unfold Less2 at this
      rw [lss_irrefl] at this
      cases this
    have := key i a hi ha e
    have := key a i ha hi e.symm
    omega
theorem wrap_ne (v : Int) : IntKind.u64.wrap (v + 1) ≠ v := by
  intro e
  have h1 : IntKind.u64.wrap (v + 1) = (v + 1) % 18446744073709551616 := by
    first | rfl | (rw [IntKind.wrap_u64]) | (unfold IntKind.wrap; rfl)
  omega
end
end Go.Proofs.Ytgaacoeggikbpaa

namespace Go.Proofs.Ytgaacoeggikbpaa
open Go.RowKit

/-- What lay below B stays, and all rows of a type. -/
structure LowT (τ : TypeId) (B : Nat) (A C : World) : Prop where
  b : Below B A C
  t : ∀ (k : Nat) cs, A.heap[k]? = some (Obj.cells cs τ (0, 0)) → C.heap[k]? = some (Obj.cells cs τ (0, 0))
section
variable {τ : TypeId} {B : Nat} {A C E : World}
theorem LowT.trans (h : LowT τ B A C) (k : LowT τ B C E) : LowT τ B A E := ⟨h.b.trans k.b, fun i cs h1 => k.t i cs (h.t i cs h1)⟩
theorem LowT.mono {B' : Nat} (h : LowT τ B A C) (hB : B' ≤ B) : LowT τ B' A C := ⟨h.b.mono hB, h.t⟩
theorem LowT.of (h : Below A.heap.size A C) (hB : B ≤ A.heap.size) : LowT τ B A C := ⟨h.mono hB, fun k _ hk => (h.block k (Array.getElem?_eq_some_iff.1 hk).1).trans hk⟩
theorem LowT.put {l : Nat} {o o' : Obj} (h : A.heap[l]? = some o) (h1 : o.isCells = false) (hl : B ≤ l) (hB : B ≤ A.heap.size) : LowT τ B A (A.putObj l o') :=
  ⟨(Below.refl _ A).grown (grownBy_putObj' A _ _) hB (fun k e => by cases e; exact hl), fun k _ hk => (World.putObj_heap_other (fun e => by
    subst e
    rw [h] at hk
    cases hk
    cases h1)).trans hk⟩
end
/-- An iterator's own step. -/
structure StpT (τ : TypeId) (B : Nat) (A C : World) : Prop where
  s : Stp B A C
  t : ∀ (k : Nat) cs, A.heap[k]? = some (Obj.cells cs τ (0, 0)) → C.heap[k]? = some (Obj.cells cs τ (0, 0))
theorem StpT.low {τ : TypeId} {B : Nat} {A C : World} (h : StpT τ B A C) : LowT τ B A C := ⟨h.s.b, h.t⟩
/-- What an iterator gives to a body that always goes on. -/
def SeqT {α : Type} (τ : TypeId) (F : Fence) (n : Nat) (P : Program) (g : Nat) (lb : Array Value) (encs : α → Array Value) (Kp : World → World → Prop) (S : List α → Prop) (N : Nat) (w : World) : Prop :=
  ∀ (l : Nat) (J : List α → World → Prop) (W : World), Below w.heap.size w W → (∀ s A C, J s A → StpT τ W.heap.size A C → J s C) →
    (∀ pre x A, J pre A → pre.length < N → YieldAt F (n - 1) P l (encs x) A fun e C => e = .returned (.bool true) ∧ J (pre ++ [x]) C ∧ Kp A C) →
    J [] W → CallsIn F n P g (#[.func (.yield l) #[] #[]] ++ lb) W fun e C => (∃ v, e = .returned v) ∧ ∃ xs, S xs ∧ J xs C
set_option maxHeartbeats 1000000 in
theorem range_goes3 {F : Fence} {n : Nat} {P : Program} {α : Type} {g : Operand} {ps : Array Tmp} {assign body : Code} {Q : Exit → Act → World → Prop} {a : Act} {w : World}
    (hro : F.round = none) (h1 : 1 ≤ n) {gf : Nat} {lb : Array Value} (hg : a.eval g = .func (.func gf) #[] lb) (hFg : F.fn gf) (eg : ∀ args w, (callFunc gf args).run P w = .ok (.enter gf args) w)
    {τ : TypeId} {encs : α → Array Value} {Kp : World → World → Prop} {S : List α → Prop} {N : Nat} (hseq : SeqT τ F (n - 1) P gf lb encs Kp S N w)
    (hKt : ∀ {A B C : World}, Kp A B → Kp B C → Kp A C) (hKb : ∀ (W : World) (l : Nat) (o o' : Obj), w.heap.size ≤ l → W.heap[l]? = some o → o.isCells = false → o.isWalk = false → Kp W (W.putObj l o')) (hps : ∀ x, (encs x).size = ps.size)
    (I : List α → World → Prop) (hI : ∀ s A C, I s A → LowT τ w.heap.size A C → I s C) (h0 : I [] w) (a₁ : α → World → Act) (w₁ : α → World → World) (hw1 : ∀ x W, Below W.heap.size W (w₁ x W)) (hk1 : ∀ x W, w.heap.size ≤ W.heap.size → Kp W (w₁ x W))
    (Q2 : α → World → World → Prop) (hq1 : ∀ x W, w.heap.size ≤ W.heap.size → Q2 x W (w₁ x W)) (hq2 : ∀ x W V (l : Nat) (o o' : Obj), Q2 x W V → V.heap[l]? = some o → o.isCells = false → Q2 x W (V.putObj l o'))
    (hassign : ∀ (l : Nat) (x : α) (W : World) (K : Act → World → Prop), K (a₁ x W) (w₁ x W) →
      assign.wpIn (F.inRound l) (n - 1 - 1) P (Exit.then K (fun _ _ _ => False)) { tmps := (ps.zip (encs x)).foldl (fun t (p, v) => t.setIfInBounds p v) a.tmps, defers := [] } W)
    (hbody : ∀ (l : Nat) (pre : List α) (x : α) (A W : World), I pre W → Q2 x A W → w.heap.size ≤ A.heap.size → pre.length < N → body.wpIn (F.inRound l) (n - 1 - 1) P (goesOut w.heap.size Kp (I (pre ++ [x])) W) (a₁ x A) W)
    (hdone : ∀ (D : Nat) (xs : List α) (W : World), w.heap.size ≤ D → S xs → I xs W → W.heap[D]? = some (.deferred (some [])) → Q .normal { a with defers := { target := .collected D, args := #[] } :: a.defers } W) :
    (Code.rangeFunc g ps assign body).wpIn F n P Q a w := by
  refine wpIn_rangeFunc (fun fn hfn => ?_)
  rw [hro]
  obtain ⟨D, hD⟩ : ∃ D, D = w.heap.size := ⟨_, rfl⟩
  obtain ⟨rc, hrc⟩ : ∃ rc : LoopState → Loop, rc = fun st => { state := st, pending := none, fn, tmps := a.tmps, params := ps, assign, body, defers := D } := ⟨_, rfl⟩
  have hent := run_enterLoop_outer (P := P) (w := w) fn a.tmps ps assign body
  rw [← hD] at hent
  rw [show ({ state := .ready, pending := none, fn, tmps := a.tmps, params := ps, assign, body, defers := D } : Loop) = rc .ready from by rw [hrc]] at hent
  obtain ⟨V, hV⟩ : ∃ V, V = (w.alloc (.deferred (some []))).alloc (.loop (rc .ready)) := ⟨_, rfl⟩
  rw [← hV] at hent
  have sV : V.heap.size = D + 1 + 1 := by rw [hV, World.size_alloc, World.size_alloc, hD]
  have vL : V.heap[D + 1]? = some (.loop (rc .ready)) := by
    have h := World.alloc_heap_new (w.alloc (.deferred (some []))) (.loop (rc .ready))
    rw [World.size_alloc, ← hD] at h
    rw [hV]
    exact h
  have vD : V.heap[D]? = some (.deferred (some [])) := by
    rw [hV]
    exact (Below.heap_alloc _ _ _ (by rw [World.size_alloc, ← hD]; omega)).trans (by rw [hD]; exact World.alloc_heap_new w _)
  have vB : Below w.heap.size w V := by
    rw [hV]
    exact ((Below.refl _ w).alloc (Nat.le_refl _) _).alloc (by rw [World.size_alloc]; omega) _
  have vT : LowT τ w.heap.size w V := LowT.of vB (Nat.le_refl _)
  refine ⟨D + 1, _, V, { target := .fn (.func gf) lb, args := #[.func (.yield (D + 1)) #[] #[]] }, V, gf, #[.func (.yield (D + 1)) #[] #[]] ++ lb, V, hent, ?_, ?_, ?_, fun _ => h1, ?_⟩
  · simp only [resolve, hg]
    simp [go_sem]
  · intro f' hf'
    simp [Target.leads] at hf'
    subst hf'
    exact hFg
  · simp [invoke, go_sem, eg]
  · refine (hseq (D + 1) (fun pre W => I pre W ∧ W.heap[D + 1]? = some (.loop (rc .ready)) ∧ W.heap[D]? = some (.deferred (some []))) V vB ?_ ?_ ⟨hI _ _ _ h0 vT, vL, vD⟩).mono ?_
    · rintro s A C ⟨i1, i2, i3⟩ hs
      exact ⟨hI _ _ _ i1 (hs.low.mono (by omega)), hs.s.o _ _ i2 rfl rfl, hs.s.o _ _ i3 rfl rfl⟩
    · rintro pre x A ⟨i1, i2, i3⟩ hlen
      have lA : D + 1 < A.heap.size := (Array.getElem?_eq_some_iff.1 i2).1
      have hy := run_yield (P := P) (args := encs x) i2 (by rw [hrc]; exact hps x)
      rw [hrc] at hy
      refine ⟨fn, _, assign, body, hy, roundIn_of_wpIn hfn (hassign _ x A _ ?_)⟩
      have hA0 : w.heap.size ≤ A.heap.size := by omega
      have b1 := hw1 x A
      have i2' : (w₁ x A).heap[D + 1]? = some (.loop (rc .ready)) := (b1.block _ lA).trans i2
      have i3' : (w₁ x A).heap[D]? = some (.deferred (some [])) := (b1.block _ (by omega)).trans i3
      have lA' : D + 1 < (w₁ x A).heap.size := (Array.getElem?_eq_some_iff.1 i2').1
      refine ⟨_, run_beginRound i2' (by rw [hrc]), ?_⟩
      obtain ⟨A2, hA2⟩ : ∃ A2, A2 = (w₁ x A).putObj (D + 1) (.loop { rc .ready with state := .busy }) := ⟨_, rfl⟩
      have aL : A2.heap[D + 1]? = some (.loop { rc .ready with state := .busy }) := by rw [hA2]; exact World.putObj_heap_same lA'
      have aD : A2.heap[D]? = some (.deferred (some [])) := by rw [hA2]; exact (World.putObj_heap_other (by omega)).trans i3'
      have aK : Kp A A2 := by rw [hA2]; exact hKt (hk1 x A hA0) (hKb _ _ _ _ (by omega) i2' rfl rfl)
      have aQ : Q2 x A A2 := by rw [hA2]; exact hq2 x A _ _ _ _ (hq1 x A hA0) i2' rfl
      have aB : LowT τ w.heap.size A A2 := by
        rw [hA2]
        exact (LowT.of b1 hA0).trans (LowT.put i2' rfl (by omega) (by have := b1.size; omega))
      rw [← hA2]
      refine wpIn_mono (hbody _ pre x A A2 (hI _ _ _ i1 aB) aQ hA0 hlen) ?_
      intro e a3 C hp
      cases e with
      | normal =>
        obtain ⟨c1, c2, c3⟩ := hp
        have cL := c1.same _ _ (by omega) aL rfl
        have cD := c1.same _ _ (by omega) aD rfl
        have lC : D + 1 < C.heap.size := (Array.getElem?_eq_some_iff.1 cL).1
        have hr := run_endRound (P := P) none cL
        have cB : LowT τ w.heap.size C (C.putObj (D + 1) (.loop (rc .ready))) := LowT.put cL rfl (by omega) (by omega)
        have hrr : ({ ({ rc .ready with state := .busy } : Loop) with state := .ready, pending := none } : Loop) = rc .ready := by rw [hrc]
        refine ⟨_, _, hr, ?_⟩
        show _ ∧ _ ∧ _
        refine ⟨rfl, ⟨?_, ?_, ?_⟩, ?_⟩
        · exact hI _ _ _ c3 (by simpa [hrc] using cB)
        · simpa [hrc] using World.putObj_heap_same (o := .loop (rc .ready)) lC
        · exact (World.putObj_heap_other (by omega)).trans cD
        · exact hKt aK (hKt c2 (hKb _ _ _ _ (by omega) cL rfl rfl))
      | ret => exact hp.elim
      | exit id => exact hp.elim
      | goto t => exact hp.elim
      | panic ch => exact hp.elim
      | outgrown => exact hp.elim
    · rintro e C ⟨⟨v, rfl⟩, xs, hS, i1, i2, i3⟩
      have lC : D + 1 < C.heap.size := (Array.getElem?_eq_some_iff.1 i2).1
      obtain ⟨r, hr⟩ : ∃ r, r = rc .ready := ⟨_, rfl⟩
      rw [← hr] at i2
      have hp0 : r.pending = none := by rw [hr, hrc]
      have he := run_endLoop (P := P) i2 (by rw [hr, hrc]; simp)
      have cB : ∀ o, LowT τ w.heap.size C (C.putObj (D + 1) o) := fun o => LowT.put i2 rfl (by omega) (by omega)
      refine ⟨none, C.putObj (D + 1) (.loop { r with state := .exhausted }), he.trans (by rw [hp0]), ?_⟩
      exact hdone D xs _ (by omega) hS (hI _ _ _ i1 (cB _)) ((World.putObj_heap_other (by omega)).trans i3)
end Go.Proofs.Ytgaacoeggikbpaa

namespace Go.Proofs.Ytgaacoeggikbpaa
open Go.RowKit Go.Maps Go.Shelf
attribute [local go_sem] Oper.semAt_some

/-- All cells of other types stay, but block b; and all maps. -/
structure KeptT (b : Nat) (τ : TypeId) (A C : World) : Prop where
  size : A.heap.size ≤ C.heap.size
  cells : ∀ (k : Nat) cs t, k ≠ b → t ≠ τ → A.heap[k]? = some (Obj.cells cs t (0, 0)) → C.heap[k]? = some (Obj.cells cs t (0, 0))
  walk : ∀ (k : Nat) (o : Obj), A.heap[k]? = some o → o.isWalk = true → C.heap[k]? = some o
section
variable {b : Nat} {τ : TypeId} {A C E : World}
theorem KeptT.refl (b : Nat) (τ : TypeId) (A : World) : KeptT b τ A A := ⟨Nat.le_refl _, fun _ _ _ _ _ h => h, fun _ _ h _ => h⟩
theorem KeptT.trans (h : KeptT b τ A C) (k : KeptT b τ C E) : KeptT b τ A E := ⟨Nat.le_trans h.size k.size, fun i cs t h1 h2 h3 => k.cells i cs t h1 h2 (h.cells i cs t h1 h2 h3), fun i o h1 h2 => k.walk i o (h.walk i o h1 h2) h2⟩
theorem KeptT.below (h : KeptT b τ A C) (k : Below A.heap.size C E) : KeptT b τ A E :=
  ⟨Nat.le_trans h.size k.size, fun i cs t h1 h2 h3 => (k.block i (Array.getElem?_eq_some_iff.1 h3).1).trans (h.cells i cs t h1 h2 h3), fun i o h1 h2 => (k.block i (Array.getElem?_eq_some_iff.1 h1).1).trans (h.walk i o h1 h2)⟩
theorem KeptT.put (b : Nat) (τ : TypeId) (W : World) (l : Nat) (o o' : Obj) (h : W.heap[l]? = some o) (h1 : o.isCells = false) (h2 : o.isWalk = false) : KeptT b τ W (W.putObj l o') :=
  ⟨(grownBy_putObj' W l o').size, fun k _ _ _ _ hk => (World.putObj_heap_other (fun e => by
    subst e
    rw [h] at hk
    cases hk
    cases h1)).trans hk, fun k x hk hx => (World.putObj_heap_other (fun e => by
    subst e
    rw [h] at hk
    cases hk
    rw [h2] at hx
    cases hx)).trans hk⟩
theorem KeptT.bx (h : KeptT b τ A C) {G : Nat} {t : TypeId} {cs : Array Value} (hx : BX A G t cs) (hne : G ≠ b) (ht : t ≠ τ) : BX C G t cs := h.cells G _ _ hne ht hx
theorem KeptT.nm (h : KeptT b τ A C) {bn N : Nat} {w0 : World} {ks : List Kn} (hm : NM w0 A bn N ks) : NM w0 C bn N ks := by
  obtain ⟨o, h1, h2⟩ := hm.obj
  exact hm.block ((h.walk bn o h1 h2).trans h1.symm)
end
theorem bx_w8 {W : World} {g : Nat} {t : TypeId} {z0 z1 z2 z3 z4 z5 z6 z7 : Value} (h : BX W g t #[z0, z1, z2, z3, z4, z5, z6, z7]) (v0 v1 v2 v3 v4 v5 v6 v7 : Value) : BX ((((((((W.setCell ⟨g, 0, none⟩ v0).setCell ⟨g, 1, none⟩ v1).setCell ⟨g, 2, none⟩ v2).setCell ⟨g, 3, none⟩ v3).setCell ⟨g, 4, none⟩ v4).setCell ⟨g, 5, none⟩ v5).setCell ⟨g, 6, none⟩ v6).setCell ⟨g, 7, none⟩ v7) g t #[v0, v1, v2, v3, v4, v5, v6, v7] := by
  have h0 := bx_put h 0 v0
  simp only [List.setIfInBounds_toArray, List.set_cons_zero] at h0
  have h1 := bx_put h0 1 v1
  simp only [List.setIfInBounds_toArray, List.set_cons_zero, List.set_cons_succ] at h1
  have h2 := bx_put h1 2 v2
  simp only [List.setIfInBounds_toArray, List.set_cons_zero, List.set_cons_succ] at h2
  have h3 := bx_put h2 3 v3
  simp only [List.setIfInBounds_toArray, List.set_cons_zero, List.set_cons_succ] at h3
  have h4 := bx_put h3 4 v4
  simp only [List.setIfInBounds_toArray, List.set_cons_zero, List.set_cons_succ] at h4
  have h5 := bx_put h4 5 v5
  simp only [List.setIfInBounds_toArray, List.set_cons_zero, List.set_cons_succ] at h5
  have h6 := bx_put h5 6 v6
  simp only [List.setIfInBounds_toArray, List.set_cons_zero, List.set_cons_succ] at h6
  have h7 := bx_put h6 7 v7
  simp only [List.setIfInBounds_toArray, List.set_cons_zero, List.set_cons_succ] at h7
  exact h7
theorem turn_w8 (W : World) (g : Nat) (v0 v1 v2 v3 v4 v5 v6 v7 : Value) : Turn (fun j => j = g) W ((((((((W.setCell ⟨g, 0, none⟩ v0).setCell ⟨g, 1, none⟩ v1).setCell ⟨g, 2, none⟩ v2).setCell ⟨g, 3, none⟩ v3).setCell ⟨g, 4, none⟩ v4).setCell ⟨g, 5, none⟩ v5).setCell ⟨g, 6, none⟩ v6).setCell ⟨g, 7, none⟩ v7) :=
  Turn.setCell (S := fun j => j = g) (Turn.setCell (S := fun j => j = g) (Turn.setCell (S := fun j => j = g) (Turn.setCell (S := fun j => j = g) (Turn.setCell (S := fun j => j = g) (Turn.setCell (S := fun j => j = g) (Turn.setCell (S := fun j => j = g) (Turn.setCell (S := fun j => j = g) (Turn.refl _ W) (Or.inl rfl) v0) (Or.inl rfl) v1) (Or.inl rfl) v2) (Or.inl rfl) v3) (Or.inl rfl) v4) (Or.inl rfl) v5) (Or.inl rfl) v6) (Or.inl rfl) v7

/-- The iterator's node, in its box. -/
structure LfS (w0 W wr : World) (b g : Nat) (k : Kn) (ak av ac : Option Addr) (ck cv cc : Nat) : Prop where
  bx : BX wr g 38 #[.int .i64 k.n.lv, .string k.n.lo, .string k.n.hi, .bool k.n.la, .int .i64 k.n.nx, .slice ak k.n.ks.length ck, .slice av k.n.vs.length cv, .slice ac k.n.cs.length cc]
  nd : NdAt w0 ak av ac k.n.ks.length ck k.n.vs.length cv k.n.cs.length cc k.n.ks k.n.vs k.n.cs
  kw : KeptT b 32 W wr
  ge : W.heap.size ≤ g
theorem LfS.keep {w0 W wr w' : World} {b g : Nat} {k : Kn} {ak av ac : Option Addr} {ck cv cc : Nat} (h : LfS w0 W wr b g k ak av ac ck cv cc) (hk : KeptT b 32 wr w') (hb : b < W.heap.size) : LfS w0 W w' b g k ak av ac ck cv cc :=
  ⟨hk.bx h.bx (by have := h.ge; omega) (by decide), h.nd, h.kw.trans hk, h.ge⟩
theorem StpT.of_b {τ : TypeId} {B : Nat} {A C : World} (hb : Below A.heap.size A C) (h : B ≤ A.heap.size) : StpT τ B A C := ⟨Stp.of_b hb h, fun k _ hk => (hb.block k (Array.getElem?_eq_some_iff.1 hk).1).trans hk⟩
theorem StpT.turn8 {τ t : TypeId} {B m : Nat} {A C : World} {cs : Array Value} (ht : Turn (fun j => j = m) A C) (hB : B ≤ m) (hA : B ≤ A.heap.size) (ho : BX A m t cs) (hne : t ≠ τ) : StpT τ B A C :=
  ⟨⟨ht.below (fun j e => by rw [show j = m from e]; exact hB) hA, fun k x hk h1 _ => (ht.block k (Array.getElem?_eq_some_iff.1 hk).1 (fun e => by
    have ho2 : A.heap[m]? = _ := ho
    rw [show k = m from e, ho2] at hk
    cases hk
    cases h1)).trans hk⟩, fun k _ hk => (ht.block k (Array.getElem?_eq_some_iff.1 hk).1 (fun e => by
    have ho2 : A.heap[m]? = _ := ho
    rw [show k = m from e, ho2] at hk
    injection hk with hk
    injection hk with _ hk _
    exact hne hk)).trans hk⟩
theorem LfS.turn {w0 W wr w' : World} {b g : Nat} {k m : Kn} {ak av ac ak2 av2 ac2 : Option Addr} {ck cv cc ck2 cv2 cc2 : Nat} (h : LfS w0 W wr b g k ak av ac ck cv cc) (ht : Turn (fun j => j = g) wr w') (hx : BX w' g 38 #[.int .i64 m.n.lv, .string m.n.lo, .string m.n.hi, .bool m.n.la, .int .i64 m.n.nx, .slice ak2 m.n.ks.length ck2, .slice av2 m.n.vs.length cv2, .slice ac2 m.n.cs.length cc2]) (hn : NdAt w0 ak2 av2 ac2 m.n.ks.length ck2 m.n.vs.length cv2 m.n.cs.length cc2 m.n.ks m.n.vs m.n.cs) : LfS w0 W w' b g m ak2 av2 ac2 ck2 cv2 cc2 :=
  ⟨hx, hn, h.kw.below (ht.below (fun j e => by rw [show j = g from e]; exact h.ge) h.kw.size), h.ge⟩
def lvAt (g : Nat) (w : World) : Nat := match w.cell? ⟨g, 0, none⟩ with | some (.int _ z) => z.toNat | _ => 0
def loAt (g : Nat) (w : World) : List UInt8 := match w.cell? ⟨g, 1, none⟩ with | some (.string s) => s.data.toList | _ => []
theorem LfS.lv {w0 W wr : World} {b g : Nat} {k : Kn} {ak av ac : Option Addr} {ck cv cc : Nat} (h : LfS w0 W wr b g k ak av ac ck cv cc) : lvAt g wr = k.n.lv.toNat := by
  unfold lvAt
  rw [h.bx.cell 0 rfl]
  rfl
theorem LfS.lo {w0 W wr : World} {b g : Nat} {k : Kn} {ak av ac : Option Addr} {ck cv cc : Nat} (h : LfS w0 W wr b g k ak av ac ck cv cc) : loAt g wr = k.n.lo.data.toList := by
  unfold loAt
  rw [h.bx.cell 1 rfl]
  rfl
/-- How many nodes lie behind a text. -/
def restN (ks : List Kn) (x : List UInt8) : Nat := ks.countP (fun m => lss x m.n.lo.data.toList)
theorem countP_less {α : Type} (p q : α → Bool) : ∀ l : List α, (∀ y ∈ l, p y = true → q y = true) → (∃ y ∈ l, q y = true ∧ p y = false) → l.countP p < l.countP q
  | [], _, h => by obtain ⟨_, h, _⟩ := h; cases h
  | x :: l, h1, ⟨y, hy, h2, h3⟩ => by
    have hle : l.countP p ≤ l.countP q := List.countP_mono_left (fun z hz => h1 z (List.mem_cons_of_mem _ hz))
    rw [List.countP_cons, List.countP_cons]
    rcases List.mem_cons.1 hy with rfl | hy
    · rw [h2, h3]
      simp
      omega
    · have ih := countP_less p q l (fun z hz => h1 z (List.mem_cons_of_mem _ hz)) ⟨y, hy, h2, h3⟩
      cases e : p x with
      | true => rw [h1 x (List.mem_cons_self ..) e]; simp; omega
      | false => cases e2 : q x <;> simp <;> omega
theorem restN_lt {ks : List Kn} {c : Int} {m : Kn} {x : List UInt8} (h : kfind ks c = some m) (hx : lss x m.n.lo.data.toList = true) : restN ks m.n.lo.data.toList < restN ks x :=
  countP_less _ _ ks (fun _ _ h => lss_trans _ _ _ hx h) ⟨m, List.mem_of_find?_eq_some h, hx, lss_irrefl _⟩
theorem restN_few {ks : List Kn} {c : Int} {m : Kn} (h : kfind ks c = some m) : restN ks m.n.lo.data.toList < ks.length := by
  have h1 := countP_less (fun y => lss m.n.lo.data.toList y.n.lo.data.toList) (fun _ => true) ks (fun _ _ _ => rfl) ⟨m, List.mem_of_find?_eq_some h, rfl, lss_irrefl _⟩
  rw [List.countP_true] at h1
  exact h1
/-- A leaf that comes, with its rows. -/
abbrev LfV (w0 : World) (ks : List Kn) := { p : Kn × Value // NdV w0 p.2 p.1.n ∧ p.1 ∈ ks }
def lfs {w0 : World} {ks : List Kn} (l : List (LfV w0 ks)) : List Kn := l.map (fun x => x.1.1)
/-- All leaves from the leftmost one on. -/
def AllL (ks : List Kn) (l : List Kn) : Prop := ∃ c, First ks c ∧ Chn ks c l
/-- What was gone through so far. -/
structure Gone (ks : List Kn) (c0 c : Int) (pre : List Kn) (k : Kn) : Prop where
  hk : kfind ks c = some k
  lv : k.n.lv = 0
  f : First ks c0
  on : ∀ l, Chn ks c l → Chn ks c0 (pre ++ l)
  n : pre.length + restN ks k.n.lo.data.toList < ks.length
theorem Gone.next {ks : List Kn} (ht : TreeP ks) {c0 c : Int} {pre : List Kn} {k : Kn} (h : Gone ks c0 c pre k) (hl : k.n.la = false) : ∃ m, kfind ks k.n.nx = some m ∧ Gone ks c0 k.n.nx (pre ++ [k]) m ∧ restN ks m.n.lo.data.toList < restN ks k.n.lo.data.toList := by
  obtain ⟨m, h1, h2, h3⟩ := ht.next h.hk hl
  have hr := restN_lt h1 (x := k.n.lo.data.toList) (by rw [h3]; exact ((ht.sound h.hk).range.more hl).2.1)
  refine ⟨m, h1, ⟨h1, h2.trans h.lv, h.f, fun l hc => ?_, ?_⟩, hr⟩
  · rw [List.append_assoc]
    exact h.on _ (.more h.hk hl hc)
  · rw [List.length_append, List.length_singleton]
    have := h.n
    omega
theorem Gone.last {ks : List Kn} {c0 c : Int} {pre : List Kn} {k : Kn} (h : Gone ks c0 c pre k) (hl : k.n.la = true) : AllL ks (pre ++ [k]) := ⟨c0, h.f, h.on _ (.last h.hk hl)⟩
theorem leavesIt_any (a b : Option Nat) (w : World) : Calls Try.prog 16 #[.agg #[.map a, .map b]] w fun e w' => e = .returned (.func (.func 29) #[] #[.pointer (some ⟨w.heap.size, 0, none⟩)]) ∧ w' = w.alloc (.cells #[.map a, .map b] 55) := by
  go_enter Try.func16, Try.ntmps16
  go_wp2
  go_ret
  exact ⟨rfl, rfl⟩
end Go.Proofs.Ytgaacoeggikbpaa

namespace Go.Proofs.Ytgaacoeggikbpaa
open Go.RowKit Go.Maps Go.Shelf
attribute [local go_sem] Oper.semAt_some

theorem bx_frozen {V : World} {A : Nat} {t : TypeId} {cs : Array Value} (h : BX V A t cs) (i : Nat) : V.frozen? ⟨A, i, none⟩ = false := by
  unfold BX at h
  simp [World.frozen?, h]
set_option maxHeartbeats 4000000 in
set_option maxRecDepth 100000 in
theorem leaves_in (n : Nat) (hn : 1 ≤ n) (l cb bn bp nn N b : Nat) (ks : List Kn) (w0 W : World) (J : List (LfV w0 ks) → World → Prop)
    (hab : ∀ s A C, J s A → StpT 32 W.heap.size A C → J s C)
    (hY : ∀ pre (x : LfV w0 ks) A, J pre A → pre.length < ks.length → YieldAt Fence.wide (n - 1) Try.prog l #[x.1.2] A fun e C => e = .returned (.bool true) ∧ J (pre ++ [x]) C ∧ KeptT b 32 A C)
    (hT : TrAt w0 W cb bn bp nn N ks) (hw0 : Below w0.heap.size w0 W) (hb : b < W.heap.size) (hcb : cb ≠ b) (ht : TreeP ks) (hwf : ∀ j, j < ks.length → WfK (kAt ks j)) (h0 : J [] W) :
    CallsIn Fence.wide n Try.prog 29 #[.func (.yield l) #[] #[], .pointer (some ⟨cb, 0, none⟩)] W fun e C => (∃ v, e = .returned v) ∧ ∃ xs, AllL ks (lfs xs) ∧ J xs C := by
  obtain ⟨kr, hkr, hlo, -⟩ := ht.root
  obtain ⟨v, hv, hl0⟩ := hT.nm.lookAll (c := 0) (by decide)
  have hnr : nodOf ks 0 = kr.n := by unfold nodOf; rw [hkr]
  rw [hnr] at hv
  obtain ⟨ak, av, ac, ck, cv, cc, rfl, hnd⟩ := nod_open hv
  have hl1 := (hl0 W (Below.refl _ _)).1
  have t0 : W.cell? ⟨cb, 0, none⟩ = some (.map (some bn)) := hT.b.cell 0 rfl
  obtain ⟨g, hg⟩ : ∃ g, g = W.heap.size := ⟨_, rfl⟩
  have hx := boxed_below W (.cells #[.int .i64 kr.n.lv, .string kr.n.lo, .string kr.n.hi, .bool kr.n.la, .int .i64 kr.n.nx, .slice ak kr.n.ks.length ck, .slice av kr.n.vs.length cv, .slice ac kr.n.cs.length cc] 38)
  have n1 := BX.new W 38 #[.int .i64 kr.n.lv, .string kr.n.lo, .string kr.n.hi, .bool kr.n.la, .int .i64 kr.n.nx, .slice ak kr.n.ks.length ck, .slice av kr.n.vs.length cv, .slice ac kr.n.cs.length cc]
  rw [← hg] at n1
  obtain ⟨W1, hW1⟩ : ∃ V, V = W.alloc (.cells #[.int .i64 kr.n.lv, .string kr.n.lo, .string kr.n.hi, .bool kr.n.la, .int .i64 kr.n.nx, .slice ak kr.n.ks.length ck, .slice av kr.n.vs.length cv, .slice ac kr.n.cs.length cc] 38) := ⟨_, rfl⟩
  rw [← hW1] at hx n1
  have HLS := Lib.hid (show LfS w0 W W1 b g kr ak av ac ck cv cc from ⟨n1, hnd, (KeptT.refl b _ W).below hx, Nat.le_of_eq hg.symm⟩)
  have HJ0 := Lib.hid (hab _ _ _ h0 (StpT.of_b hx (Nat.le_refl _)))
  have HX := Lib.hid hx
  have HW1 := Lib.hid (show g = W.heap.size ∧ _ from ⟨hg, hW1⟩)
  have HKR := Lib.hid (show _ ∧ _ from ⟨hkr, hlo⟩)
  have HY := Lib.hid hY
  have HAB := Lib.hid hab
  have HT := Lib.hid hT
  have HB := Lib.hid (show _ ∧ _ ∧ _ from ⟨hb, hcb, hw0⟩)
  have HTR := Lib.hid ht
  have HWF := Lib.hid (show ∀ c k, kfind ks c = some k → WfK k from fun c k hk => by
    obtain ⟨⟨j, hj, rfl⟩, _⟩ := kfind_at15 hk
    exact hwf j hj)
  clear hkr hlo hv hl0 hnr hnd hx n1 hg hW1 hY hab hT hb hcb hw0 ht hwf h0
  refine callsIn_of_wp Try.func29 rfl trivial ?_ rfl
  simp only [Try.ntmps29, List.size_toArray, List.length_cons, List.length_nil, Nat.reduceAdd, Nat.reduceSub, Array.replicate_succ, Array.replicate_zero, List.push_toArray, List.append_toArray, List.nil_append, List.cons_append]
  refine wpIn_wide.2 ?_
  go_wp2
  rw [← HW1.out.1, ← HW1.out.2]
  clear t0 hl1
  go_loopw [] (fun wr => ∃ (c : Int) (k : Kn) (ak av ac : Option Addr) (ck cv cc : Nat), Hid (kfind ks c = some k ∧ k.n.lo.size = 0) ∧ Hid (LfS w0 W wr b g k ak av ac ck cv cc) ∧ Hid (J [] wr) ∧ Hid (Below W.heap.size W wr)) (fun wr => lvAt g wr)
  case atStart => exact ⟨0, kr, ak, av, ac, ck, cv, cc, HKR, HLS, HJ0, HX⟩
  case round =>
    clear HKR HLS HJ0 HX HW1
    obtain ⟨c, k, ak, av, ac, ck, cv, cc, HK, HS, HJ, HBW⟩ := hrel
    have k0 := HS.out.bx.cell 0 rfl
    have k7 := HS.out.bx.cell 7 rfl
    have hsnd := HTR.out.sound HK.out.1
    by_cases hlv : 0 < k.n.lv
    · have hen := hsnd.entries.inner (by omega)
      have hpos : 0 < k.n.cs.length := by omega
      have hpos' : (0 : Int) < k.n.cs.length := by omega
      obtain ⟨g2, o2, rfl, hc2⟩ := rd_at HS.out.nd.c (0 : Int) 0 hpos
      have hkc := (rd_len HS.out.nd.c).2
      obtain ⟨m, hm, hml, -, hmlo, -⟩ := HTR.out.kid HK.out.1 hpos
      obtain ⟨x, hxx⟩ : ∃ x, x = ni k.n.cs 0 := ⟨_, rfl⟩
      have hi0 : wr.cell? ⟨g2, o2, none⟩ = some (.int .i64 x) := by
        have h1 := hc2 0 hpos
        rw [Nat.add_zero] at h1
        have hlt2 := World.block_lt_of_cell? w0 _ h1
        rw [hxx]
        exact (HBW.out.cell (p := ⟨g2, o2, none⟩) (by have := HB.out.2.2.size; simp at hlt2 ⊢; omega)).trans ((HB.out.2.2.cell (p := ⟨g2, o2, none⟩) hlt2).trans h1)
      rw [← hxx] at hm
      have hwx : (Lit.int .i64 x).wf = true := by
        rw [hxx, ni_eq hpos]
        exact (HWF.out c k HK.out.1).cs _ (List.getElem_mem _)
      have t0 : wr.cell? ⟨cb, 0, none⟩ = some (.map (some bn)) := (HS.out.kw.bx HT.out.b HB.out.2.1 (by decide)).cell 0 rfl
      obtain ⟨v2, hv2, hl2⟩ := (HS.out.kw.nm HT.out.nm).lookAll hwx
      rw [show nodOf ks x = m.n from by unfold nodOf; rw [hm]] at hv2
      obtain ⟨ak2, av2, ac2, ck2, cv2, cc2, rfl, hnd2⟩ := nod_open hv2
      have hl3 := (hl2 wr (Below.refl _ _)).1
      have hl4 := (hl2 wr.drew (Below.refl _ _).drew).1
      have HM := Lib.hid (show kfind ks x = some m ∧ m.n.lo.size = 0 ∧ m.n.lv + 1 = k.n.lv ∧ 0 ≤ m.n.lv from ⟨hm, by rw [hmlo, hen.2.2.2.1]; exact HK.out.2, by omega, (HTR.out.sound hm).level.1⟩)
      have HND2 := Lib.hid hnd2
      clear hl2 hnd2 hm hml hmlo hc2 hen hsnd hwx hxx
      have k1 := HS.out.bx.cell 1 rfl
      have k2 := HS.out.bx.cell 2 rfl
      have k3 := HS.out.bx.cell 3 rfl
      have k4 := HS.out.bx.cell 4 rfl
      have k5 := HS.out.bx.cell 5 rfl
      have k6 := HS.out.bx.cell 6 rfl
      have fz := bx_frozen HS.out.bx
      go_upto_region 2 with fail
      go_region
      have hx2 := bx_w8 HS.out.bx (.int .i64 m.n.lv) (.string m.n.lo) (.string m.n.hi) (.bool m.n.la) (.int .i64 m.n.nx) (.slice ak2 m.n.ks.length ck2) (.slice av2 m.n.vs.length cv2) (.slice ac2 m.n.cs.length cc2)
      have ht2 := turn_w8 wr g (.int .i64 m.n.lv) (.string m.n.lo) (.string m.n.hi) (.bool m.n.la) (.int .i64 m.n.nx) (.slice ak2 m.n.ks.length ck2) (.slice av2 m.n.vs.length cv2) (.slice ac2 m.n.cs.length cc2)
      obtain ⟨W2, hW2⟩ : ∃ V, V = ((((((((wr.setCell ⟨g, 0, none⟩ (.int .i64 m.n.lv)).setCell ⟨g, 1, none⟩ (.string m.n.lo)).setCell ⟨g, 2, none⟩ (.string m.n.hi)).setCell ⟨g, 3, none⟩ (.bool m.n.la)).setCell ⟨g, 4, none⟩ (.int .i64 m.n.nx)).setCell ⟨g, 5, none⟩ (.slice ak2 m.n.ks.length ck2)).setCell ⟨g, 6, none⟩ (.slice av2 m.n.vs.length cv2)).setCell ⟨g, 7, none⟩ (.slice ac2 m.n.cs.length cc2)) := ⟨_, rfl⟩
      rw [← hW2] at hx2 ht2 ⊢
      have hS2 := HS.out.turn ht2 hx2 HND2.out
      have hdr : Below W2.heap.size W2 W2.drew := (Below.refl _ _).drew
      have hS3 := hS2.keep ((KeptT.refl b _ W2).below hdr) HB.out.1
      have hb3 := (HBW.out.trans (ht2.below (fun j e => by rw [show j = g from e]; exact HS.out.ge) HBW.out.size)).trans (hdr.mono hS2.kw.size)
      have HE := Lib.hid (show _ ∧ _ ∧ _ from ⟨hS3, HAB.out _ _ _ (HAB.out _ _ _ HJ.out (StpT.turn8 ht2 HS.out.ge HBW.out.size HS.out.bx (by decide))) (StpT.of_b hdr hS2.kw.size), hb3⟩)
      have HME := Lib.hid (show lvAt g W2.drew < lvAt g wr from by rw [hS3.lv, HS.out.lv]; have := HM.out; omega)
      clear hx2 ht2 hW2 hS2 hdr hS3 hb3
      go_roundw
      case rel =>
        (repeat apply Exists.intro)
        refine ⟨?_, rfl⟩
        exact ⟨x, m, ak2, av2, ac2, ck2, cv2, cc2, Lib.hid ⟨HM.out.1, HM.out.2.1⟩, Lib.hid HE.out.1, Lib.hid HE.out.2.1, Lib.hid HE.out.2.2⟩
      case measure => exact HME.out
    · have hk0 : k.n.lv = 0 := by have := hsnd.level.1; omega
      have HF := Lib.hid (show Gone ks c c [] k from ⟨HK.out.1, hk0, ⟨k, HK.out.1, hk0, HK.out.2⟩, fun _ h => h, by rw [List.length_nil, Nat.zero_add]; exact restN_few HK.out.1⟩)
      obtain ⟨c0, hc0⟩ : ∃ c0, c0 = c := ⟨_, rfl⟩
      have HF2 := Lib.hid (show Gone ks c0 c (lfs ([] : List (LfV w0 ks))) k from by rw [hc0]; exact HF.out)
      have hk0' : (0 : Int) < k.n.lv ↔ False := ⟨fun h => by omega, fun h => h.elim⟩
      clear HF hc0 HK hsnd hlv HBW k7
      go_wp2
      go_loopw [] (fun wr => ∃ (pre : List (LfV w0 ks)) (c : Int) (k : Kn) (ak av ac : Option Addr) (ck cv cc : Nat), Hid (Gone ks c0 c (lfs pre) k) ∧ Hid (LfS w0 W wr b g k ak av ac ck cv cc) ∧ Hid (J pre wr)) (fun wr => restN ks (loAt g wr))
      case atStart => exact ⟨[], c, k, ak, av, ac, ck, cv, cc, HF2, HS, HJ⟩
      case round =>
        clear HF2 HS HJ k0 hk0 hk0'
        obtain ⟨pre, c, k, ak, av, ac, ck, cv, cc, HG, HS, HJ⟩ := hrel
        obtain ⟨wx, hwx⟩ : ∃ V : World, V = wr := ⟨_, rfl⟩
        rw [← hwx] at HS HJ ⊢
        clear hwx
        have k0 := HS.out.bx.cell 0 rfl
        have k1 := HS.out.bx.cell 1 rfl
        have k2 := HS.out.bx.cell 2 rfl
        have k3 := HS.out.bx.cell 3 rfl
        have k4 := HS.out.bx.cell 4 rfl
        have k5 := HS.out.bx.cell 5 rfl
        have k6 := HS.out.bx.cell 6 rfl
        have k7 := HS.out.bx.cell 7 rfl
        have HLO := Lib.hid HS.out.lo
        obtain ⟨px, hpx⟩ : ∃ p : LfV w0 ks, p.1 = (k, .agg #[.int .i64 k.n.lv, .string k.n.lo, .string k.n.hi, .bool k.n.la, .int .i64 k.n.nx, .slice ak k.n.ks.length ck, .slice av k.n.vs.length cv, .slice ac k.n.cs.length cc]) := ⟨⟨(k, .agg #[.int .i64 k.n.lv, .string k.n.lo, .string k.n.hi, .bool k.n.la, .int .i64 k.n.nx, .slice ak k.n.ks.length ck, .slice av k.n.vs.length cv, .slice ac k.n.cs.length cc]), ⟨⟨ak, av, ac, ck, cv, cc, rfl, HS.out.nd⟩, List.mem_of_find?_eq_some HG.out.hk⟩⟩, rfl⟩
        have hp1 : px.1.1 = k := by rw [hpx]
        have hy0 := HY.out pre px wx HJ.out (by have := HG.out.n; unfold lfs at this; rw [List.length_map] at this; omega)
        rw [show px.1.2 = .agg #[.int .i64 k.n.lv, .string k.n.lo, .string k.n.hi, .bool k.n.la, .int .i64 k.n.nx, .slice ak k.n.ks.length ck, .slice av k.n.vs.length cv, .slice ac k.n.cs.length cc] from by rw [hpx]] at hy0
        have HP1 := Lib.hid hp1
        clear hpx hp1
        obtain ⟨fn, tmps, assign, body, hy, hR⟩ := hy0
        refine (wpIn_wide (n := n)).1 ?_
        gi_wp2
        clear hy
        refine hR.mono ?_
        rintro e W3 ⟨rfl, hJ3, hk3⟩
        clear hR
        have hs3 := HS.out.keep hk3 HB.out.1
        have k3' := hs3.bx.cell 3 rfl
        have k4' := hs3.bx.cell 4 rfl
        have fz := bx_frozen hs3.bx
        have m0 := hs3.bx.cell 0 rfl
        have m1 := hs3.bx.cell 1 rfl
        have m2 := hs3.bx.cell 2 rfl
        have m5 := hs3.bx.cell 5 rfl
        have m6 := hs3.bx.cell 6 rfl
        have m7 := hs3.bx.cell 7 rfl
        have HS3 := Lib.hid hs3
        have HJ3 := Lib.hid hJ3
        clear k0 k1 k2 k3 k4 k5 k6 k7 hs3 hJ3 hk3 HS HJ
        have hps : lfs (pre ++ [px]) = lfs pre ++ [k] := by rw [← HP1.out]; unfold lfs; rw [List.map_append]; rfl
        cases hla : k.n.la with
        | true =>
          rw [hla] at k3'
          have HE := Lib.hid (show AllL ks (lfs (pre ++ [px])) ∧ _ from ⟨by rw [hps]; exact HG.out.last hla, HJ3.out⟩)
          clear hps hla
          gi_wp2
          go_end0
          exact ⟨⟨_, rfl⟩, _, HE.out.1, HE.out.2⟩
        | false =>
          rw [hla] at k3'
          obtain ⟨m, hm, hG2, hlt⟩ := HG.out.next HTR.out hla
          have hwx : (Lit.int .i64 k.n.nx).wf = true := (HWF.out c k HG.out.hk).nx
          have t0 : W3.cell? ⟨cb, 0, none⟩ = some (.map (some bn)) := (HS3.out.kw.bx HT.out.b HB.out.2.1 (by decide)).cell 0 rfl
          obtain ⟨v2, hv2, hl2⟩ := (HS3.out.kw.nm HT.out.nm).lookAll hwx
          rw [show nodOf ks k.n.nx = m.n from by unfold nodOf; rw [hm]] at hv2
          obtain ⟨ak2, av2, ac2, ck2, cv2, cc2, rfl, hnd2⟩ := nod_open hv2
          have hl3 := (hl2 W3 (Below.refl _ _)).1
          have hx2 := bx_w8 HS3.out.bx (.int .i64 m.n.lv) (.string m.n.lo) (.string m.n.hi) (.bool m.n.la) (.int .i64 m.n.nx) (.slice ak2 m.n.ks.length ck2) (.slice av2 m.n.vs.length cv2) (.slice ac2 m.n.cs.length cc2)
          have ht2 := turn_w8 W3 g (.int .i64 m.n.lv) (.string m.n.lo) (.string m.n.hi) (.bool m.n.la) (.int .i64 m.n.nx) (.slice ak2 m.n.ks.length ck2) (.slice av2 m.n.vs.length cv2) (.slice ac2 m.n.cs.length cc2)
          obtain ⟨W2, hW2⟩ : ∃ V, V = ((((((((W3.setCell ⟨g, 0, none⟩ (.int .i64 m.n.lv)).setCell ⟨g, 1, none⟩ (.string m.n.lo)).setCell ⟨g, 2, none⟩ (.string m.n.hi)).setCell ⟨g, 3, none⟩ (.bool m.n.la)).setCell ⟨g, 4, none⟩ (.int .i64 m.n.nx)).setCell ⟨g, 5, none⟩ (.slice ak2 m.n.ks.length ck2)).setCell ⟨g, 6, none⟩ (.slice av2 m.n.vs.length cv2)).setCell ⟨g, 7, none⟩ (.slice ac2 m.n.cs.length cc2)) := ⟨_, rfl⟩
          rw [← hW2] at hx2 ht2
          have hS2 := HS3.out.turn ht2 hx2 hnd2
          have HE := Lib.hid (show Gone ks c0 k.n.nx (lfs (pre ++ [px])) m ∧ LfS w0 W W2 b g m ak2 av2 ac2 ck2 cv2 cc2 ∧ _ from ⟨by rw [hps]; exact hG2, hS2, HAB.out _ _ _ HJ3.out (StpT.turn8 ht2 HS3.out.ge HS3.out.kw.size HS3.out.bx (by decide))⟩)
          have HME := Lib.hid (show restN ks (loAt g W2) < restN ks (loAt g wx) from by rw [hS2.lo, HLO.out]; exact hlt)
          have HW2 := Lib.hid hW2
          clear hla hm hG2 hlt hwx hv2 hl2 hnd2 hx2 ht2 hW2 hS2 hps
          gi_wp2
          rw [← HW2.out]
          go_roundw
          case rel =>
            exact ⟨pre ++ [px], k.n.nx, m, ak2, av2, ac2, ck2, cv2, cc2, Lib.hid HE.out.1, Lib.hid HE.out.2.1, Lib.hid HE.out.2.2⟩
          case measure => exact HME.out
theorem leaves_seq (n : Nat) (hn : 1 ≤ n) (cb bn bp nn N b : Nat) (ks : List Kn) (w0 w : World) (hT : TrAt w0 w cb bn bp nn N ks) (hw0 : Below w0.heap.size w0 w) (hb : b < w.heap.size) (hcb : cb ≠ b) (ht : TreeP ks) (hwf : ∀ j, j < ks.length → WfK (kAt ks j)) :
    SeqT 32 Fence.wide n Try.prog 29 #[.pointer (some ⟨cb, 0, none⟩)] (fun x : LfV w0 ks => #[x.1.2]) (KeptT b 32) (fun xs => AllL ks (lfs xs)) ks.length w := fun l J W hW hab hY h0 =>
  leaves_in n hn l cb bn bp nn N b ks w0 W J hab hY (hT.keep hW) (hw0.trans (hW.mono hw0.size)) (by have := hW.size; omega) hcb ht hwf h0
end Go.Proofs.Ytgaacoeggikbpaa
