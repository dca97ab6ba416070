/- inner.Drop: a node without its entry at a place, or none. Condition: sizes that fit. -/
import Derived.Test.YtjojfkddgdpnlaaInnerTurn
namespace Go.Proofs.Ytjojfkddgdpnlaa
open Go.RowKit

/-- Without the entry at a place. -/
def dropE (es : List (ByteArray × Int)) (a : Nat) : List (ByteArray × Int) := es.take a ++ es.drop (a + 1)
theorem dropE_len {es : List (ByteArray × Int)} {a : Nat} (h : a < es.length) : (dropE es a).length = es.length - 1 := by
  unfold dropE; rw [List.length_append, List.length_take, List.length_drop]; omega
theorem dropE_cells (es : List (ByteArray × Int)) (a : Nat) : ecells (dropE es a) = ecells (es.take a) ++ ecells (es.drop (a + 1)) := by
  unfold dropE
  rw [ecells_append]
theorem dropE_keys {ks : List ByteArray} {cs : List Int} (h : cs.length = ks.length) (a : Nat) : (dropE (ents ks cs) a).map (·.1) = cutF ks a := by
  unfold dropE cutF
  rw [List.map_append, List.map_take, List.map_drop, ents_keys h]
theorem dropE_kids {ks : List ByteArray} {cs : List Int} (h : cs.length = ks.length) (a : Nat) : (dropE (ents ks cs) a).map (·.2) = cutF cs a := by
  unfold dropE cutF
  rw [List.map_append, List.map_take, List.map_drop, ents_kids h]
/-- A row's beginning, where it stands. -/
theorem RowE.rdTake {W : World} {g : Nat} {es es2 : List (ByteArray × Int)} (h : RowE W g es) (a : Nat) (ha : a < es.length) (hn : es.length ≤ 64) (h2 : ecells es2 = ecells (es.take a)) (hl : es2.length = a) : RdE W (.slice (some ⟨g, 0, none⟩) a a) es2 := by
  refine ⟨_, a, by rw [hl], by omega, by omega, fun _ => ⟨g, 0, rfl, fun j hj => ?_⟩⟩
  have e := ecells_get es2 j hj
  rw [h2, ecells_take es a (by omega)] at e
  have hl2 : (ecells es).length = es.length * 2 := ecells_len es
  rw [Nat.zero_add, Whole.cell h, Whole.cell h]
  rw [List.getElem?_take, List.getElem?_take, if_pos (by omega), if_pos (by omega)] at e
  exact e
/-- A node without the entry at a place. -/
def Nod.drop (n : Nod) (a : Nat) : Nod := { n with ks := cutF n.ks a, vs := [], cs := cutF n.cs a }
def Nod.DropP (n : Nod) (at_ : Int) : Prop := n.Inner ∧ (0 < at_ ∧ at_ < n.ks.length) ∧ (n.drop at_.toNat).Sound 64

set_option maxHeartbeats 8000000 in
set_option maxRecDepth 100000 in
theorem idrop_of (lv nx : Int) (lo hi : ByteArray) (la : Bool) (ak av ac : Option Addr) (ck cv cc : Nat) (ks : List ByteArray) (vs : List Nat) (cs : List Int) (at_ : Int) (b : Bool) (w : World) (hN : NdAt w ak av ac ks.length ck vs.length cv cs.length cc ks vs cs) (hf : Fit lo hi ks ks.length vs.length cs.length) (hb : b = true ↔ Nod.DropP ⟨lv, nx, lo, hi, la, ks, vs, cs⟩ at_) :
    Calls Try.prog 15 #[.agg #[.int .i64 lv, .string lo, .string hi, .bool la, .int .i64 nx, .slice ak ks.length ck, .slice av vs.length cv, .slice ac cs.length cc], .int .i64 at_] w fun e w' => GaveN w w' e b (Nod.or b (Nod.drop ⟨lv, nx, lo, hi, la, ks, vs, cs⟩ at_.toNat)) := by
  obtain ⟨n1, n2, hB⟩ := boxes2 w #[.int .i64 lv, .string lo, .string hi, .bool la, .int .i64 nx, .slice ak ks.length ck, .slice av vs.length cv, .slice ac cs.length cc] #[.int .i64 0, .string ⟨#[]⟩, .string ⟨#[]⟩, .bool false, .int .i64 0, .slice none 0 0, .slice none 0 0, .slice none 0 0]
  obtain ⟨w1, hw1⟩ : ∃ w1, w1 = (w.alloc (.cells #[.int .i64 lv, .string lo, .string hi, .bool la, .int .i64 nx, .slice ak ks.length ck, .slice av vs.length cv, .slice ac cs.length cc] 26)).alloc (.cells #[.int .i64 0, .string ⟨#[]⟩, .string ⟨#[]⟩, .bool false, .int .i64 0, .slice none 0 0, .slice none 0 0, .slice none 0 0] 26) := ⟨_, rfl⟩
  have HB : Hid (Below w.heap.size w w1) := Lib.hid (by rw [hw1]; exact hB)
  have HN1 : Hid (NB w1 w.heap.size #[.int .i64 lv, .string lo, .string hi, .bool la, .int .i64 nx, .slice ak ks.length ck, .slice av vs.length cv, .slice ac cs.length cc]) := Lib.hid (by rw [hw1]; exact n1)
  have HN2 : Hid (NB w1 (w.heap.size + 1) #[.int .i64 0, .string ⟨#[]⟩, .string ⟨#[]⟩, .bool false, .int .i64 0, .slice none 0 0, .slice none 0 0, .slice none 0 0]) := Lib.hid (by rw [hw1]; exact n2)
  have HSZ : Hid (w1.heap.size = w.heap.size + 1 + 1) := Lib.hid (by rw [hw1, World.size_alloc, World.size_alloc])
  have HW1 := Lib.hid hw1
  obtain ⟨q0, q1, q2, q3, q4, q5, q6, q7⟩ := HN1.out.cells
  obtain ⟨l, hl⟩ := bool_or (0 < lv ∧ SoundP lv nx lo hi la ks.length vs.length cs.length ks cs 64)
  have HIS := Lib.hid (isInner_of lv nx lo hi la ak av ac ks.length ck vs.length cv cs.length cc ks vs cs l w1 (hN.keep HB.out) hf hl)
  have HND := Lib.hid hN
  have HFT := Lib.hid hf
  have HLL := Lib.hid hl
  have HBB := Lib.hid hb
  have HIL := Lib.hid (isLater_any lv nx lo hi la ak av ac ks.length ck vs.length cv cs.length cc at_)
  clear hN hf hb hl hw1 n1 n2 hB
  go_enter Try.func15, Try.ntmps15
  go_wp2_with fail
  rw [← HW1.out]
  refine HIS.out.mono ?_
  rintro e w2 ⟨rfl, hb2⟩
  have HB2 := Lib.hid hb2
  have HRB := Lib.hid (HN2.out.below HB2.out)
  have HBW := Lib.hid (HB.out.trans (HB2.out.mono HB.out.size))
  clear hb2 q0 q1 q2 q3 q4 q5 q6 q7
  cases l with
  | false =>
    have HF : Hid (b = false) := Lib.hid (bool_no HBB.out (fun h => by have := HLL.out.2 h.1; cases this))
    clear HIL
    obtain ⟨t0, t1, t2, t3, t4, t5, t6, t7⟩ := (HRB.out).cells
    have f0 := (HRB.out).frozen 0
    have f1 := (HRB.out).frozen 1
    have f2 := (HRB.out).frozen 2
    have f3 := (HRB.out).frozen 3
    have f4 := (HRB.out).frozen 4
    have f5 := (HRB.out).frozen 5
    have f6 := (HRB.out).frozen 6
    have f7 := (HRB.out).frozen 7
    go_wp2
    refine bodyPost_ret (v := .tuple #[.agg #[.int .i64 0, .string ⟨#[]⟩, .string ⟨#[]⟩, .bool false, .int .i64 0, .slice none 0 0, .slice none 0 0, .slice none 0 0], .bool false]) (by simp [results, Try.results15, go_sem, *]) rfl ?_
    rw [HF.out, Nod.ior_no]
    exact igave_none (wr5_below (w.heap.size + 1) w.heap.size (by omega) [(0, _), (1, _), (2, _), (3, _), (4, _), (5, _), (6, _), (7, _)] w w2 HBW.out)
  | true =>
    have HS := Lib.hid (HLL.out.1 rfl)
    obtain ⟨q0, q1, q2, q3, q4, q5, q6, q7⟩ := (HN1.out.below HB2.out).cells
    go_wp2_with fail
    refine (HIL.out w2).mono ?_
    rintro e w3 ⟨rfl, hb3⟩
    have HB3 := Lib.hid (HB2.out.trans (hb3.mono HB2.out.size))
    have HRB3 := Lib.hid (HN2.out.below HB3.out)
    have HBW3 := Lib.hid (HB.out.trans (HB3.out.mono HB.out.size))
    clear hb3 q0 q1 q2 q3 q4 q5 q6 q7 HIL
    obtain ⟨q0, q1, q2, q3, q4, q5, q6, q7⟩ := (HN1.out.below HB3.out).cells
    by_cases hin : 0 < at_ ∧ at_ < (ks.length : Int)
    case neg =>
      have HF : Hid (b = false) := Lib.hid (bool_no HBB.out (fun h => hin h.2.1))
      have hc : (decide (0 < at_) && decide (at_ < (ks.length : Int))) = false := by
        cases hx : (decide (0 < at_) && decide (at_ < (ks.length : Int))) with
        | false => rfl
        | true =>
          rw [Bool.and_eq_true, decide_eq_true_iff, decide_eq_true_iff] at hx
          exact absurd hx hin
      rw [hc]
      clear hc hin q0 q1 q2 q3 q4 q5 q6 q7
      obtain ⟨t0, t1, t2, t3, t4, t5, t6, t7⟩ := (HRB3.out).cells
      have f0 := (HRB3.out).frozen 0
      have f1 := (HRB3.out).frozen 1
      have f2 := (HRB3.out).frozen 2
      have f3 := (HRB3.out).frozen 3
      have f4 := (HRB3.out).frozen 4
      have f5 := (HRB3.out).frozen 5
      have f6 := (HRB3.out).frozen 6
      have f7 := (HRB3.out).frozen 7
      go_wp2
      refine bodyPost_ret (v := .tuple #[.agg #[.int .i64 0, .string ⟨#[]⟩, .string ⟨#[]⟩, .bool false, .int .i64 0, .slice none 0 0, .slice none 0 0, .slice none 0 0], .bool false]) (by simp [results, Try.results15, go_sem, *]) rfl ?_
      rw [HF.out, Nod.ior_no]
      exact igave_none (wr5_below (w.heap.size + 1) w.heap.size (by omega) [(0, _), (1, _), (2, _), (3, _), (4, _), (5, _), (6, _), (7, _)] w w3 HBW3.out)
    case pos =>
      have hc : (decide (0 < at_) && decide (at_ < (ks.length : Int))) = true := by
        rw [Bool.and_eq_true, decide_eq_true_iff, decide_eq_true_iff]; exact hin
      rw [hc]
      clear hc
      obtain ⟨a, rfl⟩ : ∃ a : Nat, at_ = a := ⟨at_.toNat, by omega⟩
      have hpos : 0 < a := by omega
      have halt : a < ks.length := by omega
      have hlv0 : lv ≠ 0 := by have := HS.out.1; omega
      have HLE := Lib.hid (HS.out.2.entries.inner hlv0)
      have HRI := Lib.hid HS.out.2.keys.rise
      have hks64 : ks.length ≤ 64 := by have := HS.out.2.keys.many; omega
      have HEN := Lib.hid (ient_any lv nx lo hi la ak av ac ck cv cc ks vs cs)
      have HEL := Lib.hid (ents_len HLE.out.1)
      go_wp2_with fail
      refine (HEN.out w3 (HND.out.keep HBW3.out) HLE.out.1 (by have := HFT.out.n; omega)).mono ?_
      rintro e w4 ⟨g, rfl, hg, hrow, hb4⟩
      have HB4 := Lib.hid (HB3.out.trans (hb4.mono HB3.out.size))
      have HRW4 : Hid (RowE w4 g (ents ks cs)) := Lib.hid hrow
      have HBX := Lib.hid (HB.out.trans (HB4.out.mono HB.out.size))
      have HRR := Lib.hid (HN2.out.below HB4.out)
      have hgw : w1.heap.size ≤ g := Nat.le_trans HB3.out.size hg
      clear hrow hb4 hg q0 q1 q2 q3 q4 q5 q6 q7 HEN
      obtain ⟨es, hes⟩ : ∃ es, es = ents ks cs := ⟨_, rfl⟩
      have hel : es.length = ks.length := by rw [hes]; exact HEL.out
      obtain ⟨es2, hes2⟩ : ∃ es2, es2 = dropE es a := ⟨_, rfl⟩
      have hk2 : es2.map (·.1) = cutF ks a := by rw [hes2, hes]; exact dropE_keys HLE.out.1 a
      have hc2 : es2.map (·.2) = cutF cs a := by rw [hes2, hes]; exact dropE_kids HLE.out.1 a
      have hl2 : es2.length = ks.length - 1 := by rw [hes2, dropE_len (by omega), hel]
      have hlk : (cutF ks a).length = es2.length := by rw [← hk2, List.length_map]
      have hlc : (cutF cs a).length = es2.length := by rw [← hc2, List.length_map]
      have hfst : (nte es2 0).1 = nth (cutF ks a) 0 := by
        rw [nte_eq (by omega), ← hk2, nth_eq (by rw [List.length_map]; omega), List.getElem_map]
      have hpost : Nod.drop ⟨lv, nx, lo, hi, la, ks, vs, cs⟩ a = ⟨lv, nx, lo, hi, la, cutF ks a, [], cutF cs a⟩ := by rfl
      have hszs : ∀ x ∈ cutF ks a, x.size ≤ 140737488355328 := by
        intro x hx
        unfold cutF at hx
        rcases List.mem_append.1 hx with h | h
        · exact HFT.out.ks x (List.mem_of_mem_take h)
        · exact HFT.out.ks x (List.mem_of_mem_drop h)
      have hfit : Fit (nte es2 0).1 hi (es2.map (·.1)) es2.length 0 es2.length := ⟨by rw [hfst, nth_eq (by omega)]; exact hszs _ (List.getElem_mem _), HFT.out.hi, by rw [hk2]; exact hszs, by omega⟩
      have hbh : b = true ↔ (nte es2 0).1 = lo ∧ ((4 : Int) ≤ 64 ∧ (64 : Int) ≤ 64) ∧ SoundP lv nx (nte es2 0).1 hi la es2.length 0 es2.length (es2.map (·.1)) (es2.map (·.2)) 64 := by
        rw [HBB.out]
        unfold Nod.DropP
        rw [Int.toNat_natCast]
        rw [hpost]
        unfold Nod.Sound
        simp only
        rw [hk2, hc2, hlk, hlc]
        constructor
        · rintro ⟨_, h1, h2⟩
          have h3 := (h2.entries.inner hlv0).2.2.2.1
          have h4 : (nte es2 0).1 = lo := by rw [hfst]; exact h3
          rw [h4]
          exact ⟨rfl, by omega, h2⟩
        · rintro ⟨h0, h1, h2⟩
          rw [h0] at h2
          exact ⟨HS.out, ⟨by omega, by omega⟩, h2⟩
      have HOR : Hid (Nod.or b ⟨lv, nx, (nte es2 0).1, hi, la, es2.map (·.1), [], es2.map (·.2)⟩ = Nod.or b (Nod.drop ⟨lv, nx, lo, hi, la, ks, vs, cs⟩ a)) := Lib.hid (by
        cases b with
        | false => rfl
        | true =>
          rw [hpost, (hbh.1 rfl).1, hk2, hc2])
      have HHV := Lib.hid (fun W eo en ec gF gf (hR : RdE W (.slice eo en ec) es2) hF hG => having_of lv nx lo hi la ak av ac ck cv cc ks vs cs eo en ec es2 gF gf lo 64 b W hR (by omega) (by omega) hF hG hfit hbh)
      rw [HOR.out] at HHV
      have HMB := Lib.hid (fun W => mayBe_any lv nx lo hi la ak av ac ks.length ck vs.length cv cs.length cc 64 W)
      have HP2 := Lib.hid (show ecells es2 = ecells (es.take a) ++ ecells (es.drop (a + 1)) by rw [hes2]; exact dropE_cells es a)
      have HL2 := Lib.hid hl2
      have HTL : Hid ((ecells (es.take a)).length = a * 2) := Lib.hid (by rw [ecells_len, List.length_take]; omega)
      have HDL : Hid ((ecells (es.drop (a + 1))).length = (ks.length - (a + 1)) * 2) := Lib.hid (by rw [ecells_len, List.length_drop]; omega)
      have HRK8 : Hid (∀ W, Below w4.heap.size w4 W → RowE W g es) := Lib.hid (fun W h => Whole.keep (by rw [hes]; exact HRW4.out) h)
      have HLEA2 := Lib.hid (show a < es.length by omega)
      have HLEA := Lib.hid (show a + 1 ≤ es.length by omega)
      rw [← hes] at HRW4
      obtain ⟨nn, hnn⟩ : ∃ nn, nn = Nod.or b (Nod.drop ⟨lv, nx, lo, hi, la, ks, vs, cs⟩ a) := ⟨_, rfl⟩
      rw [← hnn] at HHV
      have HNN := Lib.hid hnn
      clear hnn
      have HC : Hid (∀ W, Below w4.heap.size w4 W → (W.cell? ⟨w.heap.size, 0, none⟩ = some (.int .i64 lv) ∧ W.cell? ⟨w.heap.size, 1, none⟩ = some (.string lo) ∧ W.cell? ⟨w.heap.size, 2, none⟩ = some (.string hi) ∧ W.cell? ⟨w.heap.size, 3, none⟩ = some (.bool la) ∧ W.cell? ⟨w.heap.size, 4, none⟩ = some (.int .i64 nx) ∧ W.cell? ⟨w.heap.size, 5, none⟩ = some (.slice ak ks.length ck) ∧ W.cell? ⟨w.heap.size, 6, none⟩ = some (.slice av vs.length cv) ∧ W.cell? ⟨w.heap.size, 7, none⟩ = some (.slice ac cs.length cc))) := Lib.hid (fun W h => ((HN1.out.below HB4.out).below h).cells)
      have hz4 : w.heap.size + 1 < w4.heap.size := lt_of_block HRR.out
      obtain ⟨i0, hi0, hz0, hz1, hz3⟩ := info_parts infoEntry
      have HI := Lib.hid (show _ ∧ _ ∧ _ ∧ _ from ⟨hi0, hz0, hz1, hz3⟩)
      have hB1 : Below w4.heap.size w4 w4.drew := (Below.refl _ _).drew
      have HB1 := Lib.hid hB1
      have hsz1 : w4.heap.size ≤ w4.drew.heap.size := hB1.size
      have HTK := Lib.hid (RowE.takes (HRW4.out.keep hB1) a (by omega))
      have HDK := Lib.hid (RowE.drops (HRW4.out.keep hB1) (a + 1) (by omega))
      have hS0 := HC.out w4.drew hB1
      have hS1 := HC.out w4 (Below.refl _ _)
      have HE64 := Lib.hid (show es.length ≤ 64 by omega)
      have hai : (a : Int) ≤ ks.length := by omega
      have hai2 : (a : Int) < ks.length := by omega
      have hai3 : (a : Int) + 1 ≤ ks.length := by omega
      clear hes hel hes2 hk2 hc2 hl2 hlk hlc hfst hpost hszs hfit hbh hi0 hz0 hz1 hz3 HOR HEL hB1
      obtain ⟨c, hcN⟩ : ∃ c : Nat, c = a + 1 := ⟨_, rfl⟩
      have hca : (a : Int) + 1 = (c : Int) := by omega
      have HCN := Lib.hid hcN
      have hcw : IntKind.i64.wrap (c : Int) = (c : Int) := by rw [IntKind.wrap_i64]; omega
      rw [← hcN] at HP2 HDL HLEA HDK
      have hcase : a + 1 < ks.length ∨ a + 1 = ks.length := by omega
      rcases hcase with hlt | hlt
      case inl =>
        have g1 : (c : Int) < ks.length := by omega
        have g2 : c < ks.length := by omega
        have g3 : (0 : Int) ≤ (c : Int) := by omega
        have g4 : (c : Int) ≤ ks.length := by omega
        clear hcN hai3
        go_upto_region 4 with fail
        go_region_held_law (fun W => (W.cell? ⟨w.heap.size, 0, none⟩ = some (.int .i64 lv) ∧ W.cell? ⟨w.heap.size, 1, none⟩ = some (.string lo) ∧ W.cell? ⟨w.heap.size, 2, none⟩ = some (.string hi) ∧ W.cell? ⟨w.heap.size, 3, none⟩ = some (.bool la) ∧ W.cell? ⟨w.heap.size, 4, none⟩ = some (.int .i64 nx) ∧ W.cell? ⟨w.heap.size, 5, none⟩ = some (.slice ak ks.length ck) ∧ W.cell? ⟨w.heap.size, 6, none⟩ = some (.slice av vs.length cv) ∧ W.cell? ⟨w.heap.size, 7, none⟩ = some (.slice ac cs.length cc)))
          (first | (with_reducible exact hS0) | (with_reducible exact hS1) | (with_reducible exact hS6) | (with_reducible exact hS7) | (with_reducible exact hS8) | (with_reducible exact (NB.ifar8 ((HN1.out.below HB4.out).below HB8.out) (by omega) _ _ _ _ _ _ _ _).cells))
          (first
            | (refine step_append_grows rfl (.tmp 23) (.tmp 27) 96 rfl 101 i0 (.agg #[.string ⟨#[]⟩, .int .i64 0]) 2 24 Try.underlying96 HI.out.1 HI.out.2.1 HI.out.2.2.1 HI.out.2.2.2 rfl (by decide) (some ⟨g, 0, none⟩) a a (ecells (es.take a)) (by simp [Act.eval]) (fun h => by cases h) HTL.out HTK.out ⟨g, c * 2, none⟩ (ks.length - c) (ks.length - c) (ecells (es.drop c)) (by simp [Act.eval]; omega) HDL.out HDK.out (ecells_ones _) (by omega) (by unfold maxLen; omega) (by omega) ?_; intro v6 w6 hown6 hgrow6; have HB6 := Lib.hid (HB1.out.grown hgrow6 hsz1 (fun _ h => by cases h)); have hS6 := HC.out w6 HB6.out; obtain ⟨o6, c6, rfl⟩ := row_form2 hown6; have HR6 : Hid (RdE w6 _ es2) := Lib.hid (rdE_of (by rw [HP2.out]; exact hown6) (by have := HL2.out; have := HCN.out; omega)); clear hown6 hgrow6)
            | (go_at_call 64; refine (HMB.out _).mono ?_; rintro e w7 ⟨gF, gf, rfl, hF7, hG7, hb7⟩; have HB7 := Lib.hid (HB6.out.trans (hb7.mono HB6.out.size)); have hS7 := HC.out w7 HB7.out; have HR7 := Lib.hid (HR6.out.keep hb7); have HF7 := Lib.hid hF7; have HG7 := Lib.hid hG7; clear hF7 hG7 hb7)
            | (go_at_call 63; refine (HHV.out _ _ _ _ _ _ HR7.out HF7.out HG7.out).mono ?_; rintro e w8 ⟨ak8, av8, ac8, ck8, cv8, cc8, rfl, hnd8, hb8, hf8⟩; have H8 : Hid (GaveN w7 w8 (.returned (.tuple #[.agg #[.int .i64 nn.lv, .string nn.lo, .string nn.hi, .bool nn.la, .int .i64 nn.nx, .slice ak8 nn.ks.length ck8, .slice av8 nn.vs.length cv8, .slice ac8 nn.cs.length cc8], .bool b])) b nn) := Lib.hid ⟨ak8, av8, ac8, ck8, cv8, cc8, rfl, hnd8, hb8, hf8⟩; have HB8 := Lib.hid (HB7.out.trans (hb8.mono HB7.out.size)); have hS8 := HC.out w8 HB8.out; have HR8 := Lib.hid (HRR.out.below HB8.out); obtain ⟨t0, t1, t2, t3, t4, t5, t6, t7⟩ := HR8.out.cells; have f0 := HR8.out.frozen 0; have f1 := HR8.out.frozen 1; have f2 := HR8.out.frozen 2; have f3 := HR8.out.frozen 3; have f4 := HR8.out.frozen 4; have f5 := HR8.out.frozen 5; have f6 := HR8.out.frozen 6; have f7 := HR8.out.frozen 7; clear hnd8 hb8 hf8))
        clear hS0 hS1 hS7 hS8
        go_wp2
        refine bodyPost_ret (v := .tuple #[.agg #[.int .i64 nn.lv, .string nn.lo, .string nn.hi, .bool nn.la, .int .i64 nn.nx, .slice ak8 nn.ks.length ck8, .slice av8 nn.vs.length cv8, .slice ac8 nn.cs.length cc8], .bool b]) (by simp [results, Try.results15, go_sem, *]) rfl ?_
        have hfin := gave_stored H8.out (HBX.out.trans (HB7.out.mono HBX.out.size)) (by omega) (Nat.lt_of_lt_of_le hz4 HB7.out.size) [(0, .int .i64 nn.lv), (1, .string nn.lo), (2, .string nn.hi), (3, .bool nn.la), (4, .int .i64 nn.nx), (5, .slice ak8 nn.ks.length ck8), (6, .slice av8 nn.vs.length cv8), (7, .slice ac8 nn.cs.length cc8)]
        simp only [wr5] at hfin
        rw [show Nod.or b (Nod.drop ⟨lv, nx, lo, hi, la, ks, vs, cs⟩ (a : Int).toNat) = nn from HNN.out.symm]
        exact hfin
      case inr =>
        obtain rfl : c = ks.length := by omega
        clear hcN hai3 hlt
        have HDN : Hid (ecells (es.drop ks.length) = []) := Lib.hid (List.eq_nil_of_length_eq_zero (by rw [HDL.out]; omega))
        have HB6 := HB1
        have HR6 : Hid (RdE w4.drew (.slice (some ⟨g, 0, none⟩) a a) es2) := Lib.hid (RowE.rdTake (Whole.keep HRW4.out HB1.out) a HLEA2.out HE64.out (by rw [HP2.out, HDN.out, List.append_nil]) (by have := HL2.out; have := HCN.out; omega))
        go_upto_region 4 with fail
        go_region_held_law (fun W => (W.cell? ⟨w.heap.size, 0, none⟩ = some (.int .i64 lv) ∧ W.cell? ⟨w.heap.size, 1, none⟩ = some (.string lo) ∧ W.cell? ⟨w.heap.size, 2, none⟩ = some (.string hi) ∧ W.cell? ⟨w.heap.size, 3, none⟩ = some (.bool la) ∧ W.cell? ⟨w.heap.size, 4, none⟩ = some (.int .i64 nx) ∧ W.cell? ⟨w.heap.size, 5, none⟩ = some (.slice ak ks.length ck) ∧ W.cell? ⟨w.heap.size, 6, none⟩ = some (.slice av vs.length cv) ∧ W.cell? ⟨w.heap.size, 7, none⟩ = some (.slice ac cs.length cc)))
          (first | (with_reducible exact hS0) | (with_reducible exact hS1) | (with_reducible exact hS6) | (with_reducible exact hS7) | (with_reducible exact hS8) | (with_reducible exact (NB.ifar8 ((HN1.out.below HB4.out).below HB8.out) (by omega) _ _ _ _ _ _ _ _).cells))
          (first
            | (go_at_call 64; refine (HMB.out _).mono ?_; rintro e w7 ⟨gF, gf, rfl, hF7, hG7, hb7⟩; have HB7 := Lib.hid (HB6.out.trans (hb7.mono HB6.out.size)); have hS7 := HC.out w7 HB7.out; have HR7 := Lib.hid (HR6.out.keep hb7); have HF7 := Lib.hid hF7; have HG7 := Lib.hid hG7; clear hF7 hG7 hb7)
            | (go_at_call 63; refine (HHV.out _ _ _ _ _ _ HR7.out HF7.out HG7.out).mono ?_; rintro e w8 ⟨ak8, av8, ac8, ck8, cv8, cc8, rfl, hnd8, hb8, hf8⟩; have H8 : Hid (GaveN w7 w8 (.returned (.tuple #[.agg #[.int .i64 nn.lv, .string nn.lo, .string nn.hi, .bool nn.la, .int .i64 nn.nx, .slice ak8 nn.ks.length ck8, .slice av8 nn.vs.length cv8, .slice ac8 nn.cs.length cc8], .bool b])) b nn) := Lib.hid ⟨ak8, av8, ac8, ck8, cv8, cc8, rfl, hnd8, hb8, hf8⟩; have HB8 := Lib.hid (HB7.out.trans (hb8.mono HB7.out.size)); have hS8 := HC.out w8 HB8.out; have HR8 := Lib.hid (HRR.out.below HB8.out); obtain ⟨t0, t1, t2, t3, t4, t5, t6, t7⟩ := HR8.out.cells; have f0 := HR8.out.frozen 0; have f1 := HR8.out.frozen 1; have f2 := HR8.out.frozen 2; have f3 := HR8.out.frozen 3; have f4 := HR8.out.frozen 4; have f5 := HR8.out.frozen 5; have f6 := HR8.out.frozen 6; have f7 := HR8.out.frozen 7; clear hnd8 hb8 hf8))
        clear hS0 hS1 hS7 hS8
        go_wp2
        refine bodyPost_ret (v := .tuple #[.agg #[.int .i64 nn.lv, .string nn.lo, .string nn.hi, .bool nn.la, .int .i64 nn.nx, .slice ak8 nn.ks.length ck8, .slice av8 nn.vs.length cv8, .slice ac8 nn.cs.length cc8], .bool b]) (by simp [results, Try.results15, go_sem, *]) rfl ?_
        have hfin := gave_stored H8.out (HBX.out.trans (HB7.out.mono HBX.out.size)) (by omega) (Nat.lt_of_lt_of_le hz4 HB7.out.size) [(0, .int .i64 nn.lv), (1, .string nn.lo), (2, .string nn.hi), (3, .bool nn.la), (4, .int .i64 nn.nx), (5, .slice ak8 nn.ks.length ck8), (6, .slice av8 nn.vs.length cv8), (7, .slice ac8 nn.cs.length cc8)]
        simp only [wr5] at hfin
        rw [show Nod.or b (Nod.drop ⟨lv, nx, lo, hi, la, ks, vs, cs⟩ (a : Int).toNat) = nn from HNN.out.symm]
        exact hfin
end Go.Proofs.Ytjojfkddgdpnlaa
