/- leafs' closures, and leafs.those with each of them: the entries whose keys are meant. Condition: sizes that fit. -/
import Derived.Test.YtnlghdkgejimpaaLeafDoc
namespace Go.Proofs.Ytnlghdkgejimpaa
open Go.RowKit

theorem mcmp3_gt (a b : List UInt8) : decide (0 < cmp3 a b) = lss b a := by
  rw [Bool.eq_iff_iff, decide_eq_true_eq, cmp3_pos]
theorem mcmp3_lt (a b : List UInt8) : decide (cmp3 a b < 0) = lss a b := by
  rw [Bool.eq_iff_iff, decide_eq_true_eq, cmp3_neg]
theorem mcmp3_ge (a b : List UInt8) : decide (0 ≤ cmp3 a b) = !lss a b := by
  rw [← mcmp3_lt]; by_cases h : cmp3 a b < 0
  · rw [decide_eq_false (by omega), decide_eq_true h]; rfl
  · rw [decide_eq_true (by omega), decide_eq_false h]; rfl
theorem mcmp3_le (a b : List UInt8) : decide (cmp3 a b ≤ 0) = !lss b a := by
  rw [← mcmp3_gt]; by_cases h : 0 < cmp3 a b
  · rw [decide_eq_false (by omega), decide_eq_true h]; rfl
  · rw [decide_eq_true (by omega), decide_eq_false h]; rfl
def mAll : ByteArray → Bool := fun _ => true
def mNext (k : ByteArray) : ByteArray → Bool := fun x => lss k.data.toList x.data.toList
def mPrev (all : Bool) (k : ByteArray) : ByteArray → Bool := fun x => all || lss x.data.toList k.data.toList
def mScan (low high : ByteArray) : ByteArray → Bool := fun x => !lss x.data.toList low.data.toList && !lss high.data.toList x.data.toList
theorem prs_min (ks : List ByteArray) (vs : List Nat) : (prs ks vs).length = min ks.length vs.length := by unfold prs; rw [List.length_zipWith]
theorem prs_nth {ks : List ByteArray} {vs : List Nat} (i : Nat) (hk : i < ks.length) (hv : i < vs.length) : ntp (prs ks vs) i = (nth ks i, (nu vs i : Int)) := by
  rw [ntp_eq (by rw [prs_min]; omega), nth_eq hk, nu_eq hv]
  unfold prs
  rw [List.getElem_zipWith]
theorem filt_more (ss : List (ByteArray × Int)) (m : ByteArray → Bool) (i : Nat) (hi : i < ss.length) : (ss.take (i + 1)).filter (fun p => m p.1) = (ss.take i).filter (fun p => m p.1) ++ (if m (ntp ss i).1 then [((ntp ss i).1, (ntp ss i).2)] else []) := by
  rw [List.take_succ_eq_append_getElem hi, List.filter_append, ntp_eq hi]
  by_cases h : m ss[i].1 = true <;> simp [h]
theorem filt_take_len (ss : List (ByteArray × Int)) (m : ByteArray → Bool) (i : Nat) : ((ss.take i).filter (fun p => m p.1)).length ≤ ss.length := by
  refine Nat.le_trans (List.length_filter_le _ _) ?_
  rw [List.length_take]; omega

theorem inAll_any (x : ByteArray) (w : World) : Calls Try.prog 67 #[.string x] w fun e w' => e = .returned (.bool (mAll x)) ∧ Drew w w' := by
  go_enter Try.func67, Try.ntmps67
  go_wp2
  go_ret
  exact ⟨rfl, Drew.refl _⟩
theorem inNext_any (g1 : Nat) (k x : ByteArray) (w : World) (hx : x.size ≤ 140737488355328) (hw : w.cell? ⟨g1, 0, none⟩ = some (.string k) ∧ k.size ≤ 140737488355328) :
    Calls Try.prog 60 #[.string x, .pointer (some ⟨g1, 0, none⟩)] w fun e w' => e = .returned (.bool (mNext k x)) ∧ Drew w w' := by
  have HC := Lib.hid (fun W => compare_any x k W hx hw.2)
  have HL := Lib.hid (mcmp3_gt x.data.toList k.data.toList)
  have hc := hw.1
  clear hw
  generalize cmp3 x.data.toList k.data.toList = c at *
  go_enter Try.func60, Try.ntmps60
  go_wp2_with fail
  refine (HC.out _).mono ?_
  rintro e w1 ⟨rfl, hd⟩
  go_wp2
  go_ret
  exact ⟨ret_b HL.out, hd⟩
theorem inPrev_any (g1 g2 : Nat) (all : Bool) (k x : ByteArray) (w : World) (hx : x.size ≤ 140737488355328) (hw : w.cell? ⟨g1, 0, none⟩ = some (.bool all) ∧ w.cell? ⟨g2, 0, none⟩ = some (.string k) ∧ k.size ≤ 140737488355328) :
    Calls Try.prog 63 #[.string x, .pointer (some ⟨g1, 0, none⟩), .pointer (some ⟨g2, 0, none⟩)] w fun e w' => e = .returned (.bool (mPrev all k x)) ∧ Drew w w' := by
  have HC := Lib.hid (fun W => compare_any x k W hx hw.2.2)
  have HL := Lib.hid (mcmp3_lt x.data.toList k.data.toList)
  have hc := hw.1
  have hc2 := hw.2.1
  clear hw
  generalize cmp3 x.data.toList k.data.toList = c at *
  cases all with
  | true =>
    go_enter Try.func63, Try.ntmps63
    go_wp2
    go_ret
    exact ⟨rfl, Drew.refl _⟩
  | false =>
    go_enter Try.func63, Try.ntmps63
    go_wp2_with fail
    refine (HC.out _).mono ?_
    rintro e w1 ⟨rfl, hd⟩
    go_wp2
    go_ret
    exact ⟨by unfold mPrev; rw [← HL.out]; rfl, hd⟩
theorem inScan_any (g1 g2 : Nat) (low high x : ByteArray) (w : World) (hx : x.size ≤ 140737488355328) (hw : w.cell? ⟨g1, 0, none⟩ = some (.string low) ∧ w.cell? ⟨g2, 0, none⟩ = some (.string high) ∧ low.size ≤ 140737488355328 ∧ high.size ≤ 140737488355328) :
    Calls Try.prog 65 #[.string x, .pointer (some ⟨g1, 0, none⟩), .pointer (some ⟨g2, 0, none⟩)] w fun e w' => e = .returned (.bool (mScan low high x)) ∧ Drew w w' := by
  have HC := Lib.hid (fun W => compare_any x low W hx hw.2.2.1)
  have HD := Lib.hid (fun W => compare_any x high W hx hw.2.2.2)
  have HL := Lib.hid (mcmp3_ge x.data.toList low.data.toList)
  have HM := Lib.hid (mcmp3_le x.data.toList high.data.toList)
  have hc := hw.1
  have hc2 := hw.2.1
  clear hw
  generalize cmp3 x.data.toList low.data.toList = c at *
  generalize cmp3 x.data.toList high.data.toList = d at *
  by_cases h : 0 ≤ c
  · go_enter Try.func65, Try.ntmps65
    go_wp2_with fail
    refine (HC.out _).mono ?_
    rintro e w1 ⟨rfl, hd⟩
    obtain ⟨q, rfl⟩ := hd
    have h2 : (w.drewN q).cell? ⟨g2, 0, none⟩ = some (.string high) := hc2
    go_wp2_with fail
    refine (HD.out _).mono ?_
    rintro e w2 ⟨rfl, hd2⟩
    go_wp2
    go_ret
    refine ⟨?_, Drew.trans ⟨q, rfl⟩ hd2⟩
    unfold mScan; rw [← HL.out, ← HM.out, decide_eq_true h]; rfl
  · go_enter Try.func65, Try.ntmps65
    go_wp2_with fail
    refine (HC.out _).mono ?_
    rintro e w1 ⟨rfl, hd⟩
    go_wp2
    go_ret
    refine ⟨?_, hd⟩
    unfold mScan; rw [← HL.out, decide_eq_false (by omega)]; rfl

set_option maxHeartbeats 2000000 in
set_option maxRecDepth 100000 in
theorem thoseAll_any (lv nx : Int) (lo hi : ByteArray) (la : Bool) (ak av ac : Option Addr) (ck cv cc : Nat) (ks : List ByteArray) (vs : List Nat) (cs : List Int)  (w : World) (hN : NdAt w ak av ac ks.length ck vs.length cv cs.length cc ks vs cs) (hn : ks.length ≤ 274877906943) (hz : ∀ x ∈ ks, x.size ≤ 140737488355328) (_ : True) :
    Calls Try.prog 64 #[.agg #[.int .i64 lv, .string lo, .string hi, .bool la, .int .i64 nx, .slice ak ks.length ck, .slice av vs.length cv, .slice ac cs.length cc], .func (.func 67) #[] #[]] w fun e w' => DelGives w w' e ((prs ks vs).filter (fun p => mAll p.1)) := by
  have HPM : Hid (∀ W, Below w.heap.size w W → True) := Lib.hid (fun _ _ => trivial)
  have HCL := Lib.hid (fun x W (hx : x.size ≤ 140737488355328) (hw : True) => (inAll_any x W))
  have HB := Lib.hid (boxed_below w (.cells #[.int .i64 lv, .string lo, .string hi, .bool la, .int .i64 nx, .slice ak ks.length ck, .slice av vs.length cv, .slice ac cs.length cc] 26))
  have HNB := Lib.hid (NB.new w #[.int .i64 lv, .string lo, .string hi, .bool la, .int .i64 nx, .slice ak ks.length ck, .slice av vs.length cv, .slice ac cs.length cc])
  obtain ⟨w1, hw1⟩ : ∃ w1, w1 = w.alloc (.cells #[.int .i64 lv, .string lo, .string hi, .bool la, .int .i64 nx, .slice ak ks.length ck, .slice av vs.length cv, .slice ac cs.length cc] 26) := ⟨_, rfl⟩
  rw [← hw1] at HB HNB
  have HW1 := Lib.hid hw1
  have HND := Lib.hid hN
  have HPA := Lib.hid (fun i hk hv => prs_nth (ks := ks) (vs := vs) i hk hv)
  have HFM := Lib.hid (filt_more (prs ks vs) (mAll))
  have HFL := Lib.hid (filt_take_len (prs ks vs) (mAll))
  obtain ⟨n, hn2⟩ : ∃ n, n = (prs ks vs).length := ⟨_, rfl⟩
  have hnm : n = min ks.length vs.length := by rw [hn2, prs_min]
  have HF : Hid ((prs ks vs).take n = prs ks vs) := Lib.hid (by rw [hn2]; exact List.take_length)
  have HSZ : Hid (∀ i, i < ks.length → (nth ks i).size ≤ 140737488355328) := Lib.hid (fun i hi => by rw [nth_eq hi]; exact hz _ (List.getElem_mem _))
  rw [← hn2] at HFM HFL
  obtain ⟨i0, hi, hz0, hz1, hz2⟩ := info_parts infoPair
  have HI := Lib.hid (show _ ∧ _ ∧ _ ∧ _ from ⟨hi, hz0, hz1, hz2⟩)
  obtain ⟨q0, q1, q2, q3, q4, q5, q6, q7⟩ := HNB.out.cells
  have HNM := Lib.hid hnm
  clear hN hi hz0 hz1 hz2 hw1 hn2 hnm hz
  generalize prs ks vs = ss at *
  generalize mAll = m at *
  have hcase : (n = ks.length ∧ ks.length ≤ vs.length) ∨ (n = vs.length ∧ vs.length < ks.length) := by have := HNM.out; omega
  rcases hcase with ⟨hn1, hn2⟩ | ⟨hn1, hn2⟩
  all_goals
    have hn3 : (ks.length : Int) ≤ vs.length ∨ (vs.length : Int) < ks.length := by omega
    have HN1 := Lib.hid hn1
    have HN2 := Lib.hid hn2
    (first | (have hn4 : (ks.length : Int) ≤ vs.length := by omega) | (have hn4 : (vs.length : Int) < ks.length := by omega))
    clear hn1 hn2 hn3
    go_enter Try.func64, Try.ntmps64
    go_wp2
    rw [← HW1.out]
    clear q0 q1 q2 q3 q4 q5 q6 q7 hn4
    go_loopw [5, 14] (fun out s wr => ∃ i : Nat, s = .int .i64 i ∧ i ≤ n ∧ Hid (OwnP wr (w.heap.size + 1) out ((ss.take i).filter (fun p => m p.1))) ∧ Hid (NB wr w.heap.size #[.int .i64 lv, .string lo, .string hi, .bool la, .int .i64 nx, .slice ak ks.length ck, .slice av vs.length cv, .slice ac cs.length cc]) ∧ Hid (Below w.heap.size w wr)) (fun _ s _ => n - (intOf s).toNat)
    case atStart => exact ⟨0, rfl, Nat.zero_le _, Lib.hid (OwnP.nil _ _), HNB, HB⟩
    case round =>
      obtain ⟨i, rfl, hle, hO, hNB, hb⟩ := hrel
      obtain ⟨q0, q1, q2, q3, q4, q5, q6, q7⟩ := hNB.out.cells
      by_cases hlt : i < n
      · have hlk : i < ks.length := by have := HNM.out; omega
        have hlv : i < vs.length := by have := HNM.out; omega
        obtain ⟨oo, oc, ho⟩ := hO.out.open
        obtain ⟨N, hN⟩ : ∃ N, N = ((ss.take i).filter (fun p => m p.1)).length := ⟨_, rfl⟩
        have hNn : N ≤ n := by rw [hN]; exact HFL.out i
        have hNb : N ≤ 274877906943 := by have := HNM.out; omega
        rw [← hN] at ho
        subst ho
        obtain ⟨gk, ok, rfl, hck⟩ := rd_at (HND.out.k) ⟨#[]⟩ i hlk
        obtain ⟨gv, ov, rfl, hcv⟩ := rd_at (HND.out.v) 0 i hlv
        have HKR := Lib.hid (And.intro (hck i hlk) (hcv i hlv))
        have hpa := HPA.out i hlk hlv
        have hfm := HFM.out i hlt
        have hsz := HSZ.out i hlk
        rw [hpa] at hfm
        simp only at hfm
        have HNL := Lib.hid hN
        clear hpa hck hcv hN
        have g1 : (i : Int) < ks.length := by omega
        have g2 : (i : Int) < vs.length := by omega
        unfold uv at HKR
        rw [show ks.getD i ⟨#[]⟩ = nth ks i from rfl, show vs.getD i 0 = nu vs i from rfl] at HKR
        generalize nth ks i = s at *
        generalize nu vs i = z at *
        have HC : Hid (∀ V, NB V w.heap.size #[.int .i64 lv, .string lo, .string hi, .bool la, .int .i64 nx, .slice (some ⟨gk, ok, none⟩) ks.length ck, .slice (some ⟨gv, ov, none⟩) vs.length cv, .slice ac cs.length cc] → Below w.heap.size w V → (V.cell? ⟨w.heap.size, 5, none⟩ = some (.slice (some ⟨gk, ok, none⟩) ks.length ck) ∧ V.cell? ⟨w.heap.size, 6, none⟩ = some (.slice (some ⟨gv, ov, none⟩) vs.length cv) ∧ V.cell? ⟨gk, ok + i, none⟩ = some (.string s) ∧ V.cell? ⟨gv, ov + i, none⟩ = some (.int .u64 z))) := Lib.hid (fun V hn hb2 => by
          obtain ⟨e0, e1, e2, e3, e4, e5, e6, e7⟩ := hn.cells
          have l1 := World.block_lt_of_cell? w _ HKR.out.1
          have l2 := World.block_lt_of_cell? w _ HKR.out.2
          exact ⟨e5, e6, (hb2.cell (p := ⟨gk, ok + i, none⟩) l1).trans HKR.out.1, (hb2.cell (p := ⟨gv, ov + i, none⟩) l2).trans HKR.out.2⟩)
        obtain ⟨c5, c6, c7, c8⟩ := HC.out wr hNB.out hb.out
        have HCALL := Lib.hid (HCL.out s wr hsz (HPM.out wr hb.out))
        cases hms : m s with
        | false =>
          rw [hms] at HCALL hfm
          have HFE := Lib.hid hfm
          clear hfm
          go_wp2_with fail
          refine HCALL.out.mono ?_
          rintro e wd ⟨rfl, hd⟩
          have HB9 := Lib.hid (hb.out.trans ((drew_below hd _).mono hb.out.size))
          have HN9 := Lib.hid (hNB.out.below (drew_below hd _))
          have HO9 := Lib.hid (hO.out.keep (drew_below hd _))
          clear hd q0 q1 q2 q3 q4 q5 q6 q7 c5 c6 c7 c8
          go_wp2
          go_roundw
          case rel => exact ⟨i + 1, by go_num, by omega, Lib.hid (by rw [HFE.out]; simpa using HO9.out), HN9, HB9⟩
          case measure => simp [intOf]; omega
        | true =>
          rw [hms] at HCALL hfm
          have HFE := Lib.hid hfm
          clear hfm
          go_wp2_with fail
          refine HCALL.out.mono ?_
          rintro e wd ⟨rfl, hd⟩
          have HB8 := Lib.hid (hb.out.trans ((drew_below hd _).mono hb.out.size))
          have HN8 := Lib.hid (hNB.out.below (drew_below hd _))
          have HO8 := Lib.hid (hO.out.keep (drew_below hd _))
          clear hd q0 q1 q2 q3 q4 q5 q6 q7 c5 c6 c7 c8
          have hS0 := HC.out wd.drew HN8.out HB8.out.drew
          have hB1 : Below wd.heap.size wd (wd.drew.alloc (.cells #[.string s, .int .u64 z] 37)) := (Below.refl wd.heap.size wd).drew.alloc (Nat.le_refl _) _
          have hS1 := HC.out _ (HN8.out.below hB1) (HB8.out.trans (hB1.mono HB8.out.size))
          have HO1 : Hid ((wd.drew.alloc (.cells #[.string s, .int .u64 z] 37)).ownsRow (w.heap.size + 1) 37 2 (.slice oo N oc) N (pcells ((ss.take i).filter (fun p => m p.1)))) := Lib.hid (by have h5 := HO8.out.keep hB1; unfold OwnP at h5; rw [← HNL.out] at h5; exact h5)
          have HX1 := Lib.hid (HN8.out.below hB1)
          have HB2 := Lib.hid (HB8.out.trans (hB1.mono HB8.out.size))
          have hsz2 : w.heap.size + 1 ≤ wd.heap.size := by have := lt_of_block HN8.out; omega
          clear hB1
          go_wp2
          go_region_held_law (fun V => (V.cell? ⟨w.heap.size, 5, none⟩ = some (.slice (some ⟨gk, ok, none⟩) ks.length ck) ∧ V.cell? ⟨w.heap.size, 6, none⟩ = some (.slice (some ⟨gv, ov, none⟩) vs.length cv) ∧ V.cell? ⟨gk, ok + i, none⟩ = some (.string s) ∧ V.cell? ⟨gv, ov + i, none⟩ = some (.int .u64 z)))
            (first | exact hS0 | exact hS1 | exact hS9 | assumption)
            (first | (refine step_append_lies _ rfl (.tmp 24) (.tmp 36) 41 rfl (w.heap.size + 1) 37 i0 (.agg #[.string ⟨#[]⟩, .int .u64 0]) 2 24 Try.underlying41 HI.out.1 HI.out.2.1 HI.out.2.2.1 HI.out.2.2.2 rfl (by decide) (.slice oo N oc) N (pcells ((ss.take i).filter (fun p => m p.1))) (by simp [Act.eval]) HO1.out ⟨wd.heap.size, 0, none⟩ 1 1 [.string s, .int .u64 z] (by simp [Act.eval]) rfl (two_news _ _ _ _) (ones2 _ _) (by omega) (by unfold maxLen; omega) (by omega) (by simp; omega) _ rfl ?_; intro g cap w9 hown9 hgrow9 _ _; have N9 := Lib.hid (HX1.out.grown hgrow9 (own_inT HO1.out) (by decide)); have B9 := Lib.hid (HB2.out.grown hgrow9 HB2.out.size (fun k hk => Nat.le_of_succ_le (HO1.out.lt k hk).1)); have O9 : Hid (OwnP w9 (w.heap.size + 1) (.slice (some ⟨g, 0, none⟩) (N + 1) cap) ((ss.take i).filter (fun p => m p.1) ++ [(s, (z : Int))])) := Lib.hid (OwnP.more (by rw [← HNL.out]; exact hown9)); have hS9 := HC.out w9 N9.out B9.out; clear hown9 hgrow9))
          go_wp2
          go_roundw
          case rel => exact ⟨i + 1, by go_num, by omega, Lib.hid (by rw [HFE.out]; exact O9.out), N9, B9⟩
          case measure => simp [intOf]; omega
      · obtain rfl : i = n := by omega
        have HO9 := Lib.hid hO.out
        rw [HF.out] at HO9
        (first | (have g3 : ¬ (i : Int) < (ks.length : Int) := by have := HN1.out; omega) | (have g3 : ¬ (i : Int) < (vs.length : Int) := by have := HN1.out; omega))
        go_wp2
        go_ret
        exact ⟨_, rfl, HO9.out.base (by omega), hb.out⟩

set_option maxHeartbeats 2000000 in
set_option maxRecDepth 100000 in
theorem thoseNext_any (lv nx : Int) (lo hi : ByteArray) (la : Bool) (ak av ac : Option Addr) (ck cv cc : Nat) (ks : List ByteArray) (vs : List Nat) (cs : List Int) (g1 : Nat) (k : ByteArray) (w : World) (hN : NdAt w ak av ac ks.length ck vs.length cv cs.length cc ks vs cs) (hn : ks.length ≤ 274877906943) (hz : ∀ x ∈ ks, x.size ≤ 140737488355328) (hp : w.cell? ⟨g1, 0, none⟩ = some (.string k) ∧ k.size ≤ 140737488355328) :
    Calls Try.prog 64 #[.agg #[.int .i64 lv, .string lo, .string hi, .bool la, .int .i64 nx, .slice ak ks.length ck, .slice av vs.length cv, .slice ac cs.length cc], .func (.func 60) #[] #[.pointer (some ⟨g1, 0, none⟩)]] w fun e w' => DelGives w w' e ((prs ks vs).filter (fun p => mNext k p.1)) := by
  have HPM : Hid (∀ W, Below w.heap.size w W → W.cell? ⟨g1, 0, none⟩ = some (.string k) ∧ k.size ≤ 140737488355328) := Lib.hid (fun W h => by
    exact ⟨(h.cell (p := ⟨g1, 0, none⟩) (World.block_lt_of_cell? w _ hp.1)).trans hp.1, hp.2⟩)
  have HCL := Lib.hid (fun x W (hx : x.size ≤ 140737488355328) (hw : W.cell? ⟨g1, 0, none⟩ = some (.string k) ∧ k.size ≤ 140737488355328) => (inNext_any g1 k x W hx hw))
  have HB := Lib.hid (boxed_below w (.cells #[.int .i64 lv, .string lo, .string hi, .bool la, .int .i64 nx, .slice ak ks.length ck, .slice av vs.length cv, .slice ac cs.length cc] 26))
  have HNB := Lib.hid (NB.new w #[.int .i64 lv, .string lo, .string hi, .bool la, .int .i64 nx, .slice ak ks.length ck, .slice av vs.length cv, .slice ac cs.length cc])
  obtain ⟨w1, hw1⟩ : ∃ w1, w1 = w.alloc (.cells #[.int .i64 lv, .string lo, .string hi, .bool la, .int .i64 nx, .slice ak ks.length ck, .slice av vs.length cv, .slice ac cs.length cc] 26) := ⟨_, rfl⟩
  rw [← hw1] at HB HNB
  have HW1 := Lib.hid hw1
  have HND := Lib.hid hN
  have HPA := Lib.hid (fun i hk hv => prs_nth (ks := ks) (vs := vs) i hk hv)
  have HFM := Lib.hid (filt_more (prs ks vs) (mNext k))
  have HFL := Lib.hid (filt_take_len (prs ks vs) (mNext k))
  obtain ⟨n, hn2⟩ : ∃ n, n = (prs ks vs).length := ⟨_, rfl⟩
  have hnm : n = min ks.length vs.length := by rw [hn2, prs_min]
  have HF : Hid ((prs ks vs).take n = prs ks vs) := Lib.hid (by rw [hn2]; exact List.take_length)
  have HSZ : Hid (∀ i, i < ks.length → (nth ks i).size ≤ 140737488355328) := Lib.hid (fun i hi => by rw [nth_eq hi]; exact hz _ (List.getElem_mem _))
  rw [← hn2] at HFM HFL
  obtain ⟨i0, hi, hz0, hz1, hz2⟩ := info_parts infoPair
  have HI := Lib.hid (show _ ∧ _ ∧ _ ∧ _ from ⟨hi, hz0, hz1, hz2⟩)
  obtain ⟨q0, q1, q2, q3, q4, q5, q6, q7⟩ := HNB.out.cells
  have HNM := Lib.hid hnm
  clear hN hi hz0 hz1 hz2 hw1 hn2 hnm hz hp
  generalize prs ks vs = ss at *
  generalize mNext k = m at *
  have hcase : (n = ks.length ∧ ks.length ≤ vs.length) ∨ (n = vs.length ∧ vs.length < ks.length) := by have := HNM.out; omega
  rcases hcase with ⟨hn1, hn2⟩ | ⟨hn1, hn2⟩
  all_goals
    have hn3 : (ks.length : Int) ≤ vs.length ∨ (vs.length : Int) < ks.length := by omega
    have HN1 := Lib.hid hn1
    have HN2 := Lib.hid hn2
    (first | (have hn4 : (ks.length : Int) ≤ vs.length := by omega) | (have hn4 : (vs.length : Int) < ks.length := by omega))
    clear hn1 hn2 hn3
    go_enter Try.func64, Try.ntmps64
    go_wp2
    rw [← HW1.out]
    clear q0 q1 q2 q3 q4 q5 q6 q7 hn4
    go_loopw [5, 14] (fun out s wr => ∃ i : Nat, s = .int .i64 i ∧ i ≤ n ∧ Hid (OwnP wr (w.heap.size + 1) out ((ss.take i).filter (fun p => m p.1))) ∧ Hid (NB wr w.heap.size #[.int .i64 lv, .string lo, .string hi, .bool la, .int .i64 nx, .slice ak ks.length ck, .slice av vs.length cv, .slice ac cs.length cc]) ∧ Hid (Below w.heap.size w wr)) (fun _ s _ => n - (intOf s).toNat)
    case atStart => exact ⟨0, rfl, Nat.zero_le _, Lib.hid (OwnP.nil _ _), HNB, HB⟩
    case round =>
      obtain ⟨i, rfl, hle, hO, hNB, hb⟩ := hrel
      obtain ⟨q0, q1, q2, q3, q4, q5, q6, q7⟩ := hNB.out.cells
      by_cases hlt : i < n
      · have hlk : i < ks.length := by have := HNM.out; omega
        have hlv : i < vs.length := by have := HNM.out; omega
        obtain ⟨oo, oc, ho⟩ := hO.out.open
        obtain ⟨N, hN⟩ : ∃ N, N = ((ss.take i).filter (fun p => m p.1)).length := ⟨_, rfl⟩
        have hNn : N ≤ n := by rw [hN]; exact HFL.out i
        have hNb : N ≤ 274877906943 := by have := HNM.out; omega
        rw [← hN] at ho
        subst ho
        obtain ⟨gk, ok, rfl, hck⟩ := rd_at (HND.out.k) ⟨#[]⟩ i hlk
        obtain ⟨gv, ov, rfl, hcv⟩ := rd_at (HND.out.v) 0 i hlv
        have HKR := Lib.hid (And.intro (hck i hlk) (hcv i hlv))
        have hpa := HPA.out i hlk hlv
        have hfm := HFM.out i hlt
        have hsz := HSZ.out i hlk
        rw [hpa] at hfm
        simp only at hfm
        have HNL := Lib.hid hN
        clear hpa hck hcv hN
        have g1 : (i : Int) < ks.length := by omega
        have g2 : (i : Int) < vs.length := by omega
        unfold uv at HKR
        rw [show ks.getD i ⟨#[]⟩ = nth ks i from rfl, show vs.getD i 0 = nu vs i from rfl] at HKR
        generalize nth ks i = s at *
        generalize nu vs i = z at *
        have HC : Hid (∀ V, NB V w.heap.size #[.int .i64 lv, .string lo, .string hi, .bool la, .int .i64 nx, .slice (some ⟨gk, ok, none⟩) ks.length ck, .slice (some ⟨gv, ov, none⟩) vs.length cv, .slice ac cs.length cc] → Below w.heap.size w V → (V.cell? ⟨w.heap.size, 5, none⟩ = some (.slice (some ⟨gk, ok, none⟩) ks.length ck) ∧ V.cell? ⟨w.heap.size, 6, none⟩ = some (.slice (some ⟨gv, ov, none⟩) vs.length cv) ∧ V.cell? ⟨gk, ok + i, none⟩ = some (.string s) ∧ V.cell? ⟨gv, ov + i, none⟩ = some (.int .u64 z))) := Lib.hid (fun V hn hb2 => by
          obtain ⟨e0, e1, e2, e3, e4, e5, e6, e7⟩ := hn.cells
          have l1 := World.block_lt_of_cell? w _ HKR.out.1
          have l2 := World.block_lt_of_cell? w _ HKR.out.2
          exact ⟨e5, e6, (hb2.cell (p := ⟨gk, ok + i, none⟩) l1).trans HKR.out.1, (hb2.cell (p := ⟨gv, ov + i, none⟩) l2).trans HKR.out.2⟩)
        obtain ⟨c5, c6, c7, c8⟩ := HC.out wr hNB.out hb.out
        have HCALL := Lib.hid (HCL.out s wr hsz (HPM.out wr hb.out))
        cases hms : m s with
        | false =>
          rw [hms] at HCALL hfm
          have HFE := Lib.hid hfm
          clear hfm
          go_wp2_with fail
          refine HCALL.out.mono ?_
          rintro e wd ⟨rfl, hd⟩
          have HB9 := Lib.hid (hb.out.trans ((drew_below hd _).mono hb.out.size))
          have HN9 := Lib.hid (hNB.out.below (drew_below hd _))
          have HO9 := Lib.hid (hO.out.keep (drew_below hd _))
          clear hd q0 q1 q2 q3 q4 q5 q6 q7 c5 c6 c7 c8
          go_wp2
          go_roundw
          case rel => exact ⟨i + 1, by go_num, by omega, Lib.hid (by rw [HFE.out]; simpa using HO9.out), HN9, HB9⟩
          case measure => simp [intOf]; omega
        | true =>
          rw [hms] at HCALL hfm
          have HFE := Lib.hid hfm
          clear hfm
          go_wp2_with fail
          refine HCALL.out.mono ?_
          rintro e wd ⟨rfl, hd⟩
          have HB8 := Lib.hid (hb.out.trans ((drew_below hd _).mono hb.out.size))
          have HN8 := Lib.hid (hNB.out.below (drew_below hd _))
          have HO8 := Lib.hid (hO.out.keep (drew_below hd _))
          clear hd q0 q1 q2 q3 q4 q5 q6 q7 c5 c6 c7 c8
          have hS0 := HC.out wd.drew HN8.out HB8.out.drew
          have hB1 : Below wd.heap.size wd (wd.drew.alloc (.cells #[.string s, .int .u64 z] 37)) := (Below.refl wd.heap.size wd).drew.alloc (Nat.le_refl _) _
          have hS1 := HC.out _ (HN8.out.below hB1) (HB8.out.trans (hB1.mono HB8.out.size))
          have HO1 : Hid ((wd.drew.alloc (.cells #[.string s, .int .u64 z] 37)).ownsRow (w.heap.size + 1) 37 2 (.slice oo N oc) N (pcells ((ss.take i).filter (fun p => m p.1)))) := Lib.hid (by have h5 := HO8.out.keep hB1; unfold OwnP at h5; rw [← HNL.out] at h5; exact h5)
          have HX1 := Lib.hid (HN8.out.below hB1)
          have HB2 := Lib.hid (HB8.out.trans (hB1.mono HB8.out.size))
          have hsz2 : w.heap.size + 1 ≤ wd.heap.size := by have := lt_of_block HN8.out; omega
          clear hB1
          go_wp2
          go_region_held_law (fun V => (V.cell? ⟨w.heap.size, 5, none⟩ = some (.slice (some ⟨gk, ok, none⟩) ks.length ck) ∧ V.cell? ⟨w.heap.size, 6, none⟩ = some (.slice (some ⟨gv, ov, none⟩) vs.length cv) ∧ V.cell? ⟨gk, ok + i, none⟩ = some (.string s) ∧ V.cell? ⟨gv, ov + i, none⟩ = some (.int .u64 z)))
            (first | exact hS0 | exact hS1 | exact hS9 | assumption)
            (first | (refine step_append_lies _ rfl (.tmp 24) (.tmp 36) 41 rfl (w.heap.size + 1) 37 i0 (.agg #[.string ⟨#[]⟩, .int .u64 0]) 2 24 Try.underlying41 HI.out.1 HI.out.2.1 HI.out.2.2.1 HI.out.2.2.2 rfl (by decide) (.slice oo N oc) N (pcells ((ss.take i).filter (fun p => m p.1))) (by simp [Act.eval]) HO1.out ⟨wd.heap.size, 0, none⟩ 1 1 [.string s, .int .u64 z] (by simp [Act.eval]) rfl (two_news _ _ _ _) (ones2 _ _) (by omega) (by unfold maxLen; omega) (by omega) (by simp; omega) _ rfl ?_; intro g cap w9 hown9 hgrow9 _ _; have N9 := Lib.hid (HX1.out.grown hgrow9 (own_inT HO1.out) (by decide)); have B9 := Lib.hid (HB2.out.grown hgrow9 HB2.out.size (fun k hk => Nat.le_of_succ_le (HO1.out.lt k hk).1)); have O9 : Hid (OwnP w9 (w.heap.size + 1) (.slice (some ⟨g, 0, none⟩) (N + 1) cap) ((ss.take i).filter (fun p => m p.1) ++ [(s, (z : Int))])) := Lib.hid (OwnP.more (by rw [← HNL.out]; exact hown9)); have hS9 := HC.out w9 N9.out B9.out; clear hown9 hgrow9))
          go_wp2
          go_roundw
          case rel => exact ⟨i + 1, by go_num, by omega, Lib.hid (by rw [HFE.out]; exact O9.out), N9, B9⟩
          case measure => simp [intOf]; omega
      · obtain rfl : i = n := by omega
        have HO9 := Lib.hid hO.out
        rw [HF.out] at HO9
        (first | (have g3 : ¬ (i : Int) < (ks.length : Int) := by have := HN1.out; omega) | (have g3 : ¬ (i : Int) < (vs.length : Int) := by have := HN1.out; omega))
        go_wp2
        go_ret
        exact ⟨_, rfl, HO9.out.base (by omega), hb.out⟩

set_option maxHeartbeats 2000000 in
set_option maxRecDepth 100000 in
theorem thosePrev_any (lv nx : Int) (lo hi : ByteArray) (la : Bool) (ak av ac : Option Addr) (ck cv cc : Nat) (ks : List ByteArray) (vs : List Nat) (cs : List Int) (g1 g2 : Nat) (all : Bool) (k : ByteArray) (w : World) (hN : NdAt w ak av ac ks.length ck vs.length cv cs.length cc ks vs cs) (hn : ks.length ≤ 274877906943) (hz : ∀ x ∈ ks, x.size ≤ 140737488355328) (hp : w.cell? ⟨g1, 0, none⟩ = some (.bool all) ∧ w.cell? ⟨g2, 0, none⟩ = some (.string k) ∧ k.size ≤ 140737488355328) :
    Calls Try.prog 64 #[.agg #[.int .i64 lv, .string lo, .string hi, .bool la, .int .i64 nx, .slice ak ks.length ck, .slice av vs.length cv, .slice ac cs.length cc], .func (.func 63) #[] #[.pointer (some ⟨g1, 0, none⟩), .pointer (some ⟨g2, 0, none⟩)]] w fun e w' => DelGives w w' e ((prs ks vs).filter (fun p => mPrev all k p.1)) := by
  have HPM : Hid (∀ W, Below w.heap.size w W → W.cell? ⟨g1, 0, none⟩ = some (.bool all) ∧ W.cell? ⟨g2, 0, none⟩ = some (.string k) ∧ k.size ≤ 140737488355328) := Lib.hid (fun W h => by
    exact ⟨(h.cell (p := ⟨g1, 0, none⟩) (World.block_lt_of_cell? w _ hp.1)).trans hp.1, (h.cell (p := ⟨g2, 0, none⟩) (World.block_lt_of_cell? w _ hp.2.1)).trans hp.2.1, hp.2.2⟩)
  have HCL := Lib.hid (fun x W (hx : x.size ≤ 140737488355328) (hw : W.cell? ⟨g1, 0, none⟩ = some (.bool all) ∧ W.cell? ⟨g2, 0, none⟩ = some (.string k) ∧ k.size ≤ 140737488355328) => (inPrev_any g1 g2 all k x W hx hw))
  have HB := Lib.hid (boxed_below w (.cells #[.int .i64 lv, .string lo, .string hi, .bool la, .int .i64 nx, .slice ak ks.length ck, .slice av vs.length cv, .slice ac cs.length cc] 26))
  have HNB := Lib.hid (NB.new w #[.int .i64 lv, .string lo, .string hi, .bool la, .int .i64 nx, .slice ak ks.length ck, .slice av vs.length cv, .slice ac cs.length cc])
  obtain ⟨w1, hw1⟩ : ∃ w1, w1 = w.alloc (.cells #[.int .i64 lv, .string lo, .string hi, .bool la, .int .i64 nx, .slice ak ks.length ck, .slice av vs.length cv, .slice ac cs.length cc] 26) := ⟨_, rfl⟩
  rw [← hw1] at HB HNB
  have HW1 := Lib.hid hw1
  have HND := Lib.hid hN
  have HPA := Lib.hid (fun i hk hv => prs_nth (ks := ks) (vs := vs) i hk hv)
  have HFM := Lib.hid (filt_more (prs ks vs) (mPrev all k))
  have HFL := Lib.hid (filt_take_len (prs ks vs) (mPrev all k))
  obtain ⟨n, hn2⟩ : ∃ n, n = (prs ks vs).length := ⟨_, rfl⟩
  have hnm : n = min ks.length vs.length := by rw [hn2, prs_min]
  have HF : Hid ((prs ks vs).take n = prs ks vs) := Lib.hid (by rw [hn2]; exact List.take_length)
  have HSZ : Hid (∀ i, i < ks.length → (nth ks i).size ≤ 140737488355328) := Lib.hid (fun i hi => by rw [nth_eq hi]; exact hz _ (List.getElem_mem _))
  rw [← hn2] at HFM HFL
  obtain ⟨i0, hi, hz0, hz1, hz2⟩ := info_parts infoPair
  have HI := Lib.hid (show _ ∧ _ ∧ _ ∧ _ from ⟨hi, hz0, hz1, hz2⟩)
  obtain ⟨q0, q1, q2, q3, q4, q5, q6, q7⟩ := HNB.out.cells
  have HNM := Lib.hid hnm
  clear hN hi hz0 hz1 hz2 hw1 hn2 hnm hz hp
  generalize prs ks vs = ss at *
  generalize mPrev all k = m at *
  have hcase : (n = ks.length ∧ ks.length ≤ vs.length) ∨ (n = vs.length ∧ vs.length < ks.length) := by have := HNM.out; omega
  rcases hcase with ⟨hn1, hn2⟩ | ⟨hn1, hn2⟩
  all_goals
    have hn3 : (ks.length : Int) ≤ vs.length ∨ (vs.length : Int) < ks.length := by omega
    have HN1 := Lib.hid hn1
    have HN2 := Lib.hid hn2
    (first | (have hn4 : (ks.length : Int) ≤ vs.length := by omega) | (have hn4 : (vs.length : Int) < ks.length := by omega))
    clear hn1 hn2 hn3
    go_enter Try.func64, Try.ntmps64
    go_wp2
    rw [← HW1.out]
    clear q0 q1 q2 q3 q4 q5 q6 q7 hn4
    go_loopw [5, 14] (fun out s wr => ∃ i : Nat, s = .int .i64 i ∧ i ≤ n ∧ Hid (OwnP wr (w.heap.size + 1) out ((ss.take i).filter (fun p => m p.1))) ∧ Hid (NB wr w.heap.size #[.int .i64 lv, .string lo, .string hi, .bool la, .int .i64 nx, .slice ak ks.length ck, .slice av vs.length cv, .slice ac cs.length cc]) ∧ Hid (Below w.heap.size w wr)) (fun _ s _ => n - (intOf s).toNat)
    case atStart => exact ⟨0, rfl, Nat.zero_le _, Lib.hid (OwnP.nil _ _), HNB, HB⟩
    case round =>
      obtain ⟨i, rfl, hle, hO, hNB, hb⟩ := hrel
      obtain ⟨q0, q1, q2, q3, q4, q5, q6, q7⟩ := hNB.out.cells
      by_cases hlt : i < n
      · have hlk : i < ks.length := by have := HNM.out; omega
        have hlv : i < vs.length := by have := HNM.out; omega
        obtain ⟨oo, oc, ho⟩ := hO.out.open
        obtain ⟨N, hN⟩ : ∃ N, N = ((ss.take i).filter (fun p => m p.1)).length := ⟨_, rfl⟩
        have hNn : N ≤ n := by rw [hN]; exact HFL.out i
        have hNb : N ≤ 274877906943 := by have := HNM.out; omega
        rw [← hN] at ho
        subst ho
        obtain ⟨gk, ok, rfl, hck⟩ := rd_at (HND.out.k) ⟨#[]⟩ i hlk
        obtain ⟨gv, ov, rfl, hcv⟩ := rd_at (HND.out.v) 0 i hlv
        have HKR := Lib.hid (And.intro (hck i hlk) (hcv i hlv))
        have hpa := HPA.out i hlk hlv
        have hfm := HFM.out i hlt
        have hsz := HSZ.out i hlk
        rw [hpa] at hfm
        simp only at hfm
        have HNL := Lib.hid hN
        clear hpa hck hcv hN
        have g1 : (i : Int) < ks.length := by omega
        have g2 : (i : Int) < vs.length := by omega
        unfold uv at HKR
        rw [show ks.getD i ⟨#[]⟩ = nth ks i from rfl, show vs.getD i 0 = nu vs i from rfl] at HKR
        generalize nth ks i = s at *
        generalize nu vs i = z at *
        have HC : Hid (∀ V, NB V w.heap.size #[.int .i64 lv, .string lo, .string hi, .bool la, .int .i64 nx, .slice (some ⟨gk, ok, none⟩) ks.length ck, .slice (some ⟨gv, ov, none⟩) vs.length cv, .slice ac cs.length cc] → Below w.heap.size w V → (V.cell? ⟨w.heap.size, 5, none⟩ = some (.slice (some ⟨gk, ok, none⟩) ks.length ck) ∧ V.cell? ⟨w.heap.size, 6, none⟩ = some (.slice (some ⟨gv, ov, none⟩) vs.length cv) ∧ V.cell? ⟨gk, ok + i, none⟩ = some (.string s) ∧ V.cell? ⟨gv, ov + i, none⟩ = some (.int .u64 z))) := Lib.hid (fun V hn hb2 => by
          obtain ⟨e0, e1, e2, e3, e4, e5, e6, e7⟩ := hn.cells
          have l1 := World.block_lt_of_cell? w _ HKR.out.1
          have l2 := World.block_lt_of_cell? w _ HKR.out.2
          exact ⟨e5, e6, (hb2.cell (p := ⟨gk, ok + i, none⟩) l1).trans HKR.out.1, (hb2.cell (p := ⟨gv, ov + i, none⟩) l2).trans HKR.out.2⟩)
        obtain ⟨c5, c6, c7, c8⟩ := HC.out wr hNB.out hb.out
        have HCALL := Lib.hid (HCL.out s wr hsz (HPM.out wr hb.out))
        cases hms : m s with
        | false =>
          rw [hms] at HCALL hfm
          have HFE := Lib.hid hfm
          clear hfm
          go_wp2_with fail
          refine HCALL.out.mono ?_
          rintro e wd ⟨rfl, hd⟩
          have HB9 := Lib.hid (hb.out.trans ((drew_below hd _).mono hb.out.size))
          have HN9 := Lib.hid (hNB.out.below (drew_below hd _))
          have HO9 := Lib.hid (hO.out.keep (drew_below hd _))
          clear hd q0 q1 q2 q3 q4 q5 q6 q7 c5 c6 c7 c8
          go_wp2
          go_roundw
          case rel => exact ⟨i + 1, by go_num, by omega, Lib.hid (by rw [HFE.out]; simpa using HO9.out), HN9, HB9⟩
          case measure => simp [intOf]; omega
        | true =>
          rw [hms] at HCALL hfm
          have HFE := Lib.hid hfm
          clear hfm
          go_wp2_with fail
          refine HCALL.out.mono ?_
          rintro e wd ⟨rfl, hd⟩
          have HB8 := Lib.hid (hb.out.trans ((drew_below hd _).mono hb.out.size))
          have HN8 := Lib.hid (hNB.out.below (drew_below hd _))
          have HO8 := Lib.hid (hO.out.keep (drew_below hd _))
          clear hd q0 q1 q2 q3 q4 q5 q6 q7 c5 c6 c7 c8
          have hS0 := HC.out wd.drew HN8.out HB8.out.drew
          have hB1 : Below wd.heap.size wd (wd.drew.alloc (.cells #[.string s, .int .u64 z] 37)) := (Below.refl wd.heap.size wd).drew.alloc (Nat.le_refl _) _
          have hS1 := HC.out _ (HN8.out.below hB1) (HB8.out.trans (hB1.mono HB8.out.size))
          have HO1 : Hid ((wd.drew.alloc (.cells #[.string s, .int .u64 z] 37)).ownsRow (w.heap.size + 1) 37 2 (.slice oo N oc) N (pcells ((ss.take i).filter (fun p => m p.1)))) := Lib.hid (by have h5 := HO8.out.keep hB1; unfold OwnP at h5; rw [← HNL.out] at h5; exact h5)
          have HX1 := Lib.hid (HN8.out.below hB1)
          have HB2 := Lib.hid (HB8.out.trans (hB1.mono HB8.out.size))
          have hsz2 : w.heap.size + 1 ≤ wd.heap.size := by have := lt_of_block HN8.out; omega
          clear hB1
          go_wp2
          go_region_held_law (fun V => (V.cell? ⟨w.heap.size, 5, none⟩ = some (.slice (some ⟨gk, ok, none⟩) ks.length ck) ∧ V.cell? ⟨w.heap.size, 6, none⟩ = some (.slice (some ⟨gv, ov, none⟩) vs.length cv) ∧ V.cell? ⟨gk, ok + i, none⟩ = some (.string s) ∧ V.cell? ⟨gv, ov + i, none⟩ = some (.int .u64 z)))
            (first | exact hS0 | exact hS1 | exact hS9 | assumption)
            (first | (refine step_append_lies _ rfl (.tmp 24) (.tmp 36) 41 rfl (w.heap.size + 1) 37 i0 (.agg #[.string ⟨#[]⟩, .int .u64 0]) 2 24 Try.underlying41 HI.out.1 HI.out.2.1 HI.out.2.2.1 HI.out.2.2.2 rfl (by decide) (.slice oo N oc) N (pcells ((ss.take i).filter (fun p => m p.1))) (by simp [Act.eval]) HO1.out ⟨wd.heap.size, 0, none⟩ 1 1 [.string s, .int .u64 z] (by simp [Act.eval]) rfl (two_news _ _ _ _) (ones2 _ _) (by omega) (by unfold maxLen; omega) (by omega) (by simp; omega) _ rfl ?_; intro g cap w9 hown9 hgrow9 _ _; have N9 := Lib.hid (HX1.out.grown hgrow9 (own_inT HO1.out) (by decide)); have B9 := Lib.hid (HB2.out.grown hgrow9 HB2.out.size (fun k hk => Nat.le_of_succ_le (HO1.out.lt k hk).1)); have O9 : Hid (OwnP w9 (w.heap.size + 1) (.slice (some ⟨g, 0, none⟩) (N + 1) cap) ((ss.take i).filter (fun p => m p.1) ++ [(s, (z : Int))])) := Lib.hid (OwnP.more (by rw [← HNL.out]; exact hown9)); have hS9 := HC.out w9 N9.out B9.out; clear hown9 hgrow9))
          go_wp2
          go_roundw
          case rel => exact ⟨i + 1, by go_num, by omega, Lib.hid (by rw [HFE.out]; exact O9.out), N9, B9⟩
          case measure => simp [intOf]; omega
      · obtain rfl : i = n := by omega
        have HO9 := Lib.hid hO.out
        rw [HF.out] at HO9
        (first | (have g3 : ¬ (i : Int) < (ks.length : Int) := by have := HN1.out; omega) | (have g3 : ¬ (i : Int) < (vs.length : Int) := by have := HN1.out; omega))
        go_wp2
        go_ret
        exact ⟨_, rfl, HO9.out.base (by omega), hb.out⟩

set_option maxHeartbeats 2000000 in
set_option maxRecDepth 100000 in
theorem thoseScan_any (lv nx : Int) (lo hi : ByteArray) (la : Bool) (ak av ac : Option Addr) (ck cv cc : Nat) (ks : List ByteArray) (vs : List Nat) (cs : List Int) (g1 g2 : Nat) (low high : ByteArray) (w : World) (hN : NdAt w ak av ac ks.length ck vs.length cv cs.length cc ks vs cs) (hn : ks.length ≤ 274877906943) (hz : ∀ x ∈ ks, x.size ≤ 140737488355328) (hp : w.cell? ⟨g1, 0, none⟩ = some (.string low) ∧ w.cell? ⟨g2, 0, none⟩ = some (.string high) ∧ low.size ≤ 140737488355328 ∧ high.size ≤ 140737488355328) :
    Calls Try.prog 64 #[.agg #[.int .i64 lv, .string lo, .string hi, .bool la, .int .i64 nx, .slice ak ks.length ck, .slice av vs.length cv, .slice ac cs.length cc], .func (.func 65) #[] #[.pointer (some ⟨g1, 0, none⟩), .pointer (some ⟨g2, 0, none⟩)]] w fun e w' => DelGives w w' e ((prs ks vs).filter (fun p => mScan low high p.1)) := by
  have HPM : Hid (∀ W, Below w.heap.size w W → W.cell? ⟨g1, 0, none⟩ = some (.string low) ∧ W.cell? ⟨g2, 0, none⟩ = some (.string high) ∧ low.size ≤ 140737488355328 ∧ high.size ≤ 140737488355328) := Lib.hid (fun W h => by
    exact ⟨(h.cell (p := ⟨g1, 0, none⟩) (World.block_lt_of_cell? w _ hp.1)).trans hp.1, (h.cell (p := ⟨g2, 0, none⟩) (World.block_lt_of_cell? w _ hp.2.1)).trans hp.2.1, hp.2.2⟩)
  have HCL := Lib.hid (fun x W (hx : x.size ≤ 140737488355328) (hw : W.cell? ⟨g1, 0, none⟩ = some (.string low) ∧ W.cell? ⟨g2, 0, none⟩ = some (.string high) ∧ low.size ≤ 140737488355328 ∧ high.size ≤ 140737488355328) => (inScan_any g1 g2 low high x W hx hw))
  have HB := Lib.hid (boxed_below w (.cells #[.int .i64 lv, .string lo, .string hi, .bool la, .int .i64 nx, .slice ak ks.length ck, .slice av vs.length cv, .slice ac cs.length cc] 26))
  have HNB := Lib.hid (NB.new w #[.int .i64 lv, .string lo, .string hi, .bool la, .int .i64 nx, .slice ak ks.length ck, .slice av vs.length cv, .slice ac cs.length cc])
  obtain ⟨w1, hw1⟩ : ∃ w1, w1 = w.alloc (.cells #[.int .i64 lv, .string lo, .string hi, .bool la, .int .i64 nx, .slice ak ks.length ck, .slice av vs.length cv, .slice ac cs.length cc] 26) := ⟨_, rfl⟩
  rw [← hw1] at HB HNB
  have HW1 := Lib.hid hw1
  have HND := Lib.hid hN
  have HPA := Lib.hid (fun i hk hv => prs_nth (ks := ks) (vs := vs) i hk hv)
  have HFM := Lib.hid (filt_more (prs ks vs) (mScan low high))
  have HFL := Lib.hid (filt_take_len (prs ks vs) (mScan low high))
  obtain ⟨n, hn2⟩ : ∃ n, n = (prs ks vs).length := ⟨_, rfl⟩
  have hnm : n = min ks.length vs.length := by rw [hn2, prs_min]
  have HF : Hid ((prs ks vs).take n = prs ks vs) := Lib.hid (by rw [hn2]; exact List.take_length)
  have HSZ : Hid (∀ i, i < ks.length → (nth ks i).size ≤ 140737488355328) := Lib.hid (fun i hi => by rw [nth_eq hi]; exact hz _ (List.getElem_mem _))
  rw [← hn2] at HFM HFL
  obtain ⟨i0, hi, hz0, hz1, hz2⟩ := info_parts infoPair
  have HI := Lib.hid (show _ ∧ _ ∧ _ ∧ _ from ⟨hi, hz0, hz1, hz2⟩)
  obtain ⟨q0, q1, q2, q3, q4, q5, q6, q7⟩ := HNB.out.cells
  have HNM := Lib.hid hnm
  clear hN hi hz0 hz1 hz2 hw1 hn2 hnm hz hp
  generalize prs ks vs = ss at *
  generalize mScan low high = m at *
  have hcase : (n = ks.length ∧ ks.length ≤ vs.length) ∨ (n = vs.length ∧ vs.length < ks.length) := by have := HNM.out; omega
  rcases hcase with ⟨hn1, hn2⟩ | ⟨hn1, hn2⟩
  all_goals
    have hn3 : (ks.length : Int) ≤ vs.length ∨ (vs.length : Int) < ks.length := by omega
    have HN1 := Lib.hid hn1
    have HN2 := Lib.hid hn2
    (first | (have hn4 : (ks.length : Int) ≤ vs.length := by omega) | (have hn4 : (vs.length : Int) < ks.length := by omega))
    clear hn1 hn2 hn3
    go_enter Try.func64, Try.ntmps64
    go_wp2
    rw [← HW1.out]
    clear q0 q1 q2 q3 q4 q5 q6 q7 hn4
    go_loopw [5, 14] (fun out s wr => ∃ i : Nat, s = .int .i64 i ∧ i ≤ n ∧ Hid (OwnP wr (w.heap.size + 1) out ((ss.take i).filter (fun p => m p.1))) ∧ Hid (NB wr w.heap.size #[.int .i64 lv, .string lo, .string hi, .bool la, .int .i64 nx, .slice ak ks.length ck, .slice av vs.length cv, .slice ac cs.length cc]) ∧ Hid (Below w.heap.size w wr)) (fun _ s _ => n - (intOf s).toNat)
    case atStart => exact ⟨0, rfl, Nat.zero_le _, Lib.hid (OwnP.nil _ _), HNB, HB⟩
    case round =>
      obtain ⟨i, rfl, hle, hO, hNB, hb⟩ := hrel
      obtain ⟨q0, q1, q2, q3, q4, q5, q6, q7⟩ := hNB.out.cells
      by_cases hlt : i < n
      · have hlk : i < ks.length := by have := HNM.out; omega
        have hlv : i < vs.length := by have := HNM.out; omega
        obtain ⟨oo, oc, ho⟩ := hO.out.open
        obtain ⟨N, hN⟩ : ∃ N, N = ((ss.take i).filter (fun p => m p.1)).length := ⟨_, rfl⟩
        have hNn : N ≤ n := by rw [hN]; exact HFL.out i
        have hNb : N ≤ 274877906943 := by have := HNM.out; omega
        rw [← hN] at ho
        subst ho
        obtain ⟨gk, ok, rfl, hck⟩ := rd_at (HND.out.k) ⟨#[]⟩ i hlk
        obtain ⟨gv, ov, rfl, hcv⟩ := rd_at (HND.out.v) 0 i hlv
        have HKR := Lib.hid (And.intro (hck i hlk) (hcv i hlv))
        have hpa := HPA.out i hlk hlv
        have hfm := HFM.out i hlt
        have hsz := HSZ.out i hlk
        rw [hpa] at hfm
        simp only at hfm
        have HNL := Lib.hid hN
        clear hpa hck hcv hN
        have g1 : (i : Int) < ks.length := by omega
        have g2 : (i : Int) < vs.length := by omega
        unfold uv at HKR
        rw [show ks.getD i ⟨#[]⟩ = nth ks i from rfl, show vs.getD i 0 = nu vs i from rfl] at HKR
        generalize nth ks i = s at *
        generalize nu vs i = z at *
        have HC : Hid (∀ V, NB V w.heap.size #[.int .i64 lv, .string lo, .string hi, .bool la, .int .i64 nx, .slice (some ⟨gk, ok, none⟩) ks.length ck, .slice (some ⟨gv, ov, none⟩) vs.length cv, .slice ac cs.length cc] → Below w.heap.size w V → (V.cell? ⟨w.heap.size, 5, none⟩ = some (.slice (some ⟨gk, ok, none⟩) ks.length ck) ∧ V.cell? ⟨w.heap.size, 6, none⟩ = some (.slice (some ⟨gv, ov, none⟩) vs.length cv) ∧ V.cell? ⟨gk, ok + i, none⟩ = some (.string s) ∧ V.cell? ⟨gv, ov + i, none⟩ = some (.int .u64 z))) := Lib.hid (fun V hn hb2 => by
          obtain ⟨e0, e1, e2, e3, e4, e5, e6, e7⟩ := hn.cells
          have l1 := World.block_lt_of_cell? w _ HKR.out.1
          have l2 := World.block_lt_of_cell? w _ HKR.out.2
          exact ⟨e5, e6, (hb2.cell (p := ⟨gk, ok + i, none⟩) l1).trans HKR.out.1, (hb2.cell (p := ⟨gv, ov + i, none⟩) l2).trans HKR.out.2⟩)
        obtain ⟨c5, c6, c7, c8⟩ := HC.out wr hNB.out hb.out
        have HCALL := Lib.hid (HCL.out s wr hsz (HPM.out wr hb.out))
        cases hms : m s with
        | false =>
          rw [hms] at HCALL hfm
          have HFE := Lib.hid hfm
          clear hfm
          go_wp2_with fail
          refine HCALL.out.mono ?_
          rintro e wd ⟨rfl, hd⟩
          have HB9 := Lib.hid (hb.out.trans ((drew_below hd _).mono hb.out.size))
          have HN9 := Lib.hid (hNB.out.below (drew_below hd _))
          have HO9 := Lib.hid (hO.out.keep (drew_below hd _))
          clear hd q0 q1 q2 q3 q4 q5 q6 q7 c5 c6 c7 c8
          go_wp2
          go_roundw
          case rel => exact ⟨i + 1, by go_num, by omega, Lib.hid (by rw [HFE.out]; simpa using HO9.out), HN9, HB9⟩
          case measure => simp [intOf]; omega
        | true =>
          rw [hms] at HCALL hfm
          have HFE := Lib.hid hfm
          clear hfm
          go_wp2_with fail
          refine HCALL.out.mono ?_
          rintro e wd ⟨rfl, hd⟩
          have HB8 := Lib.hid (hb.out.trans ((drew_below hd _).mono hb.out.size))
          have HN8 := Lib.hid (hNB.out.below (drew_below hd _))
          have HO8 := Lib.hid (hO.out.keep (drew_below hd _))
          clear hd q0 q1 q2 q3 q4 q5 q6 q7 c5 c6 c7 c8
          have hS0 := HC.out wd.drew HN8.out HB8.out.drew
          have hB1 : Below wd.heap.size wd (wd.drew.alloc (.cells #[.string s, .int .u64 z] 37)) := (Below.refl wd.heap.size wd).drew.alloc (Nat.le_refl _) _
          have hS1 := HC.out _ (HN8.out.below hB1) (HB8.out.trans (hB1.mono HB8.out.size))
          have HO1 : Hid ((wd.drew.alloc (.cells #[.string s, .int .u64 z] 37)).ownsRow (w.heap.size + 1) 37 2 (.slice oo N oc) N (pcells ((ss.take i).filter (fun p => m p.1)))) := Lib.hid (by have h5 := HO8.out.keep hB1; unfold OwnP at h5; rw [← HNL.out] at h5; exact h5)
          have HX1 := Lib.hid (HN8.out.below hB1)
          have HB2 := Lib.hid (HB8.out.trans (hB1.mono HB8.out.size))
          have hsz2 : w.heap.size + 1 ≤ wd.heap.size := by have := lt_of_block HN8.out; omega
          clear hB1
          go_wp2
          go_region_held_law (fun V => (V.cell? ⟨w.heap.size, 5, none⟩ = some (.slice (some ⟨gk, ok, none⟩) ks.length ck) ∧ V.cell? ⟨w.heap.size, 6, none⟩ = some (.slice (some ⟨gv, ov, none⟩) vs.length cv) ∧ V.cell? ⟨gk, ok + i, none⟩ = some (.string s) ∧ V.cell? ⟨gv, ov + i, none⟩ = some (.int .u64 z)))
            (first | exact hS0 | exact hS1 | exact hS9 | assumption)
            (first | (refine step_append_lies _ rfl (.tmp 24) (.tmp 36) 41 rfl (w.heap.size + 1) 37 i0 (.agg #[.string ⟨#[]⟩, .int .u64 0]) 2 24 Try.underlying41 HI.out.1 HI.out.2.1 HI.out.2.2.1 HI.out.2.2.2 rfl (by decide) (.slice oo N oc) N (pcells ((ss.take i).filter (fun p => m p.1))) (by simp [Act.eval]) HO1.out ⟨wd.heap.size, 0, none⟩ 1 1 [.string s, .int .u64 z] (by simp [Act.eval]) rfl (two_news _ _ _ _) (ones2 _ _) (by omega) (by unfold maxLen; omega) (by omega) (by simp; omega) _ rfl ?_; intro g cap w9 hown9 hgrow9 _ _; have N9 := Lib.hid (HX1.out.grown hgrow9 (own_inT HO1.out) (by decide)); have B9 := Lib.hid (HB2.out.grown hgrow9 HB2.out.size (fun k hk => Nat.le_of_succ_le (HO1.out.lt k hk).1)); have O9 : Hid (OwnP w9 (w.heap.size + 1) (.slice (some ⟨g, 0, none⟩) (N + 1) cap) ((ss.take i).filter (fun p => m p.1) ++ [(s, (z : Int))])) := Lib.hid (OwnP.more (by rw [← HNL.out]; exact hown9)); have hS9 := HC.out w9 N9.out B9.out; clear hown9 hgrow9))
          go_wp2
          go_roundw
          case rel => exact ⟨i + 1, by go_num, by omega, Lib.hid (by rw [HFE.out]; exact O9.out), N9, B9⟩
          case measure => simp [intOf]; omega
      · obtain rfl : i = n := by omega
        have HO9 := Lib.hid hO.out
        rw [HF.out] at HO9
        (first | (have g3 : ¬ (i : Int) < (ks.length : Int) := by have := HN1.out; omega) | (have g3 : ¬ (i : Int) < (vs.length : Int) := by have := HN1.out; omega))
        go_wp2
        go_ret
        exact ⟨_, rfl, HO9.out.base (by omega), hb.out⟩
end Go.Proofs.Ytnlghdkgejimpaa
