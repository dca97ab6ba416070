/- Two rows that grow beside a node's box; bowerref12.Put: a node with an entry more, where its key has its place. Condition: sizes that fit; the place is that of the first key that is greater. -/
import Derived.Test.YtmkglaghnjnooaaInnerPost
import Derived.Test.YtmkglaghnjnooaaInsMath
namespace Go.Proofs.Ytmkglaghnjnooaa
open Go.RowKit

theorem take_more {α β : Type} (f : α → β) (P : List α) (m : Nat) (h : m < P.length) (d x : α) (hx : P.getD m d = x) : (P.take m).map f ++ [f x] = (P.take (m + 1)).map f := by
  rw [List.take_succ_eq_append_getElem h, List.map_append]
  have : P[m] = x := by rw [← hx, List.getD_eq_getElem?_getD, List.getElem?_eq_getElem h]; rfl
  rw [this]; rfl
/-- Two rows that grow to P and Q: the box, the result's box, so much of each. -/
structure RowsAt (w wr : World) (cells : Array Value) (kv cv : Value) (m k : Nat) (P : List ByteArray) (Q : List Int) : Prop where
  box : NB wr w.heap.size cells
  res : NB wr (w.heap.size + 1) #[.int .i64 0, .string ⟨#[]⟩, .string ⟨#[]⟩, .bool false, .int .i64 0, .slice none 0 0, .slice none 0 0, .slice none 0 0]
  keys : wr.ownsRow (w.heap.size + 2) 9 1 kv m ((P.take m).map Value.string)
  kids : wr.ownsRow (w.heap.size + 2) 3 1 cv k ((Q.take k).map (Value.int .i64))
  below : Below w.heap.size w wr
section
variable {w wr w9 : World} {cells : Array Value} {kv cv u : Value} {m k : Nat} {P : List ByteArray} {Q : List Int}
theorem RowsAt.keep (h : RowsAt w wr cells kv cv m k P Q) (hb : Below wr.heap.size wr w9) : RowsAt w w9 cells kv cv m k P Q :=
  ⟨h.box.below hb, h.res.below hb, own_stays h.keys hb, own_stays h.kids hb, h.below.trans (hb.mono h.below.size)⟩
theorem RowsAt.size (h : RowsAt w wr cells kv cv m k P Q) : w.heap.size + 2 ≤ wr.heap.size := by have := lt_of_block h.res; omega
theorem RowsAt.addK {s : ByteArray} (h : RowsAt w wr cells kv cv m k P Q) (hg : wr.grownBy w9 kv.ownBlock) (ho : w9.ownsRow (w.heap.size + 2) 9 1 u (m + 1) ((P.take m).map Value.string ++ [.string s])) (ha : m < P.length) (hs : nth P m = s) : RowsAt w w9 cells u cv (m + 1) k P Q := by
  have hr := own_inT h.keys
  rw [take_more Value.string P m ha ⟨#[]⟩ s hs] at ho
  exact ⟨h.box.grown hg hr (by decide), h.res.grown hg hr (by decide), ho, own_keeps h.kids hg hr (by decide), h.below.grown hg h.below.size (fun k hk => by have := (h.keys.lt k hk).1; omega)⟩
theorem RowsAt.addC {z : Int} (h : RowsAt w wr cells kv cv m k P Q) (hg : wr.grownBy w9 cv.ownBlock) (ho : w9.ownsRow (w.heap.size + 2) 3 1 u (k + 1) ((Q.take k).map (Value.int .i64) ++ [.int .i64 z])) (ha : k < Q.length) (hs : ni Q k = z) : RowsAt w w9 cells kv u m (k + 1) P Q := by
  have hr := own_inT h.kids
  rw [take_more (Value.int .i64) Q k ha 0 z hs] at ho
  exact ⟨h.box.grown hg hr (by decide), h.res.grown hg hr (by decide), own_keeps h.keys hg hr (by decide), ho, h.below.grown hg h.below.size (fun k hk => by have := (h.kids.lt k hk).1; omega)⟩
theorem RowsAt.put {c0 c1 c2 c3 c4 c5 c6 c7 : Value} (h : RowsAt w wr #[c0, c1, c2, c3, c4, c5, c6, c7] kv cv m k P Q) : RowsAt w ((wr.setCell ⟨w.heap.size, 5, none⟩ kv).setCell ⟨w.heap.size, 7, none⟩ cv) #[c0, c1, c2, c3, c4, kv, c6, cv] kv cv m k P Q := by
  have h1 := h.box.s5 kv
  have g1 := grown_set wr w.heap.size 5 kv
  have g2 := grown_set (wr.setCell ⟨w.heap.size, 5, none⟩ kv) w.heap.size 7 cv
  have t1 := nb_inT h.box
  have t2 := nb_inT h1
  exact ⟨h1.s7 cv, (h.res.far (p := ⟨w.heap.size, 5, none⟩) (by show w.heap.size + 1 ≠ w.heap.size; omega) kv).far (p := ⟨w.heap.size, 7, none⟩) (by show w.heap.size + 1 ≠ w.heap.size; omega) cv, own_keeps (own_keeps h.keys g1 t1 (by decide)) g2 t2 (by decide), own_keeps (own_keeps h.kids g1 t1 (by decide)) g2 t2 (by decide), (h.below.setCell (Nat.le_refl _) kv).setCell (Nat.le_refl _) cv⟩
end
/-- A node is told, with new rows of keys and kids. -/
def PutGives (w w' : World) (e : Ending) (lv nx : Int) (lo hi : ByteArray) (la : Bool) (av : Option Addr) (nv cv : Nat) (P : List ByteArray) (Q : List Int) : Prop :=
  ∃ (ka ca : Option Addr) (kc cc : Nat), e = .returned (.agg #[.int .i64 lv, .string lo, .string hi, .bool la, .int .i64 nx, .slice ka P.length kc, .slice av nv cv, .slice ca Q.length cc]) ∧
    w'.ownsRow (w.heap.size + 2) 9 1 (.slice ka P.length kc) P.length (P.map Value.string) ∧ w'.ownsRow (w.heap.size + 2) 3 1 (.slice ca Q.length cc) Q.length (Q.map (Value.int .i64)) ∧ Below w.heap.size w w'
/-- A node is told, and whether. -/
def GaveD (w w' : World) (e : Ending) (b : Bool) (n : Nod) : Prop :=
  ∃ (ak av ac : Option Addr) (ck cv cc : Nat), e = .returned (.tuple #[.agg #[.int .i64 n.lv, .string n.lo, .string n.hi, .bool n.la, .int .i64 n.nx, .slice ak n.ks.length ck, .slice av n.vs.length cv, .slice ac n.cs.length cc], .bool b]) ∧ NdAt w' ak av ac n.ks.length ck n.vs.length cv n.cs.length cc n.ks n.vs n.cs ∧ Below w.heap.size w w'
theorem GaveN.d {w w' : World} {e : Ending} {b : Bool} {n : Nod} (h : GaveN w w' e b n) : GaveD w w' e b n := by
  obtain ⟨ak, av, ac, ck, cv, cc, h1, h2, h3, _⟩ := h
  exact ⟨ak, av, ac, ck, cv, cc, h1, h2, h3⟩

set_option maxHeartbeats 8000000 in
set_option maxRecDepth 100000 in
theorem rput_of (lv nx : Int) (lo hi : ByteArray) (la : Bool) (ak av ac : Option Addr) (ck cv cc : Nat) (ks : List ByteArray) (vs : List Nat) (cs : List Int) (low : ByteArray) (kid : Int) (a : Nat) (w : World) (hN : NdAt w ak av ac ks.length ck vs.length cv cs.length cc ks vs cs) (hf : Fit lo hi ks ks.length vs.length cs.length) (hc : cs.length = ks.length) (hk : low.size ≤ 140737488355328)
    (ha : a ≤ ks.length) (hl1 : ∀ i, i < a → lss low.data.toList (nth ks i).data.toList = false) (hl2 : a < ks.length → lss low.data.toList (nth ks a).data.toList = true) :
    Calls Try.prog 67 #[.agg #[.int .i64 lv, .string lo, .string hi, .bool la, .int .i64 nx, .slice ak ks.length ck, .slice av vs.length cv, .slice ac cs.length cc], .string low, .int .i64 kid] w fun e w' => PutGives w w' e lv nx lo hi la av vs.length cv (insF ks a low) (insF cs a kid) := by
  obtain ⟨n1, n2, hB⟩ := boxes2 w #[.int .i64 lv, .string lo, .string hi, .bool la, .int .i64 nx, .slice ak ks.length ck, .slice av vs.length cv, .slice ac cs.length cc] #[.int .i64 0, .string ⟨#[]⟩, .string ⟨#[]⟩, .bool false, .int .i64 0, .slice none 0 0, .slice none 0 0, .slice none 0 0]
  obtain ⟨w1, hw1⟩ : ∃ w1, w1 = (w.alloc (.cells #[.int .i64 lv, .string lo, .string hi, .bool la, .int .i64 nx, .slice ak ks.length ck, .slice av vs.length cv, .slice ac cs.length cc] 26)).alloc (.cells #[.int .i64 0, .string ⟨#[]⟩, .string ⟨#[]⟩, .bool false, .int .i64 0, .slice none 0 0, .slice none 0 0, .slice none 0 0] 26) := ⟨_, rfl⟩
  rw [← hw1] at n1 n2 hB
  have hpl : (insF ks a low).length = ks.length + 1 := insF_len ha low
  have hql : (insF cs a kid).length = ks.length + 1 := by rw [insF_len (by omega) kid, hc]
  have HPL := Lib.hid hpl
  have HQL := Lib.hid hql
  have HPa : Hid (nth (insF ks a low) a = low) := Lib.hid (insF_eq low ⟨#[]⟩ ha)
  have HQa : Hid (ni (insF cs a kid) a = kid) := Lib.hid (insF_eq kid 0 (by omega))
  have HPl : Hid (∀ i, i < a → nth (insF ks a low) i = nth ks i) := Lib.hid (fun i hi => insF_lt low ⟨#[]⟩ hi ha)
  have HQl : Hid (∀ i, i < a → ni (insF cs a kid) i = ni cs i) := Lib.hid (fun i hi => insF_lt kid 0 hi (by omega))
  have HPg : Hid (∀ i, a ≤ i → nth (insF ks a low) (i + 1) = nth ks i) := Lib.hid (fun i hi => insF_gt low ⟨#[]⟩ (by omega) ha)
  have HQg : Hid (∀ i, a ≤ i → ni (insF cs a kid) (i + 1) = ni cs i) := Lib.hid (fun i hi => insF_gt kid 0 (by omega) (by omega))
  have HL1 := Lib.hid hl1
  have HL2 := Lib.hid hl2
  have HLS := Lib.hid (fun (i : Nat) (hi : i < ks.length) (W : World) => less_any low (nth ks i) W hk (by rw [nth_eq hi]; exact hf.ks _ (List.getElem_mem hi)))
  have HN64 : Hid (ks.length ≤ 274877906943) := Lib.hid hf.n.1
  have HLC := Lib.hid hc
  have H0 : Hid (RowsAt w w1 #[.int .i64 lv, .string lo, .string hi, .bool la, .int .i64 nx, .slice ak ks.length ck, .slice av vs.length cv, .slice ac cs.length cc] (.slice none 0 0) (.slice none 0 0) 0 0 (insF ks a low) (insF cs a kid)) := Lib.hid ⟨n1, n2, World.ownsRow_nil _ _ _ _, World.ownsRow_nil _ _ _ _, hB⟩
  have HND := Lib.hid hN
  have HW1 := Lib.hid hw1
  obtain ⟨i0, hi0, hz0, hz1, hz3⟩ := info_parts infoStr
  have HI := Lib.hid (show _ ∧ _ ∧ _ ∧ _ from ⟨hi0, hz0, hz1, hz3⟩)
  obtain ⟨i1, hi1, hy0, hy1, hy3⟩ := info_parts infoInt
  have HJ := Lib.hid (show _ ∧ _ ∧ _ ∧ _ from ⟨hi1, hy0, hy1, hy3⟩)
  generalize insF ks a low = P at *
  generalize insF cs a kid = R at *
  clear hN hf hc hk hl1 hl2 n1 n2 hB hw1 hi0 hz0 hz1 hz3 hi1 hy0 hy1 hy3 hpl hql
  go_enter Try.func67, Try.ntmps67
  go_upto_region 5 with fail
  rw [← HW1.out]
  clear HW1
  go_loopw [7, 8, 9, 10] (fun x7 x8 x9 s wr => ∃ (i m : Nat) (ko co : Option Addr) (kc c2 : Nat), x7 = .slice ko m kc ∧ x8 = .slice co m c2 ∧ x9 = .bool (decide (a < i)) ∧ s = .int .i64 i ∧ i ≤ ks.length ∧ m = (if a < i then i + 1 else i) ∧ Hid (RowsAt w wr #[.int .i64 lv, .string lo, .string hi, .bool la, .int .i64 nx, .slice ak ks.length ck, .slice av vs.length cv, .slice ac cs.length cc] (.slice ko m kc) (.slice co m c2) m m P R)) (fun _ _ _ s _ => ks.length - (intOf s).toNat)
  case atStart => exact ⟨0, 0, none, none, 0, 0, rfl, rfl, by rw [decide_eq_false (by omega)], rfl, Nat.zero_le _, by rw [if_neg (by omega)], H0⟩
  case round =>
    obtain ⟨i, m, ko, co, kc, c2, rfl, rfl, rfl, rfl, hle, hm, hR⟩ := hrel
    clear H0
    by_cases hlt : i < ks.length
    case pos =>
      obtain ⟨gk, ok, rfl, hck⟩ := rd_at HND.out.k ⟨#[]⟩ i hlt
      obtain ⟨gc, oc, rfl, hcc⟩ := rd_at HND.out.c (0 : Int) i (by have := HLC.out; omega)
      have HCE : Hid (∀ V, Below w.heap.size w V → V.cell? ⟨gk, ok + i, none⟩ = some (.string (nth ks i)) ∧ V.cell? ⟨gc, oc + i, none⟩ = some (.int .i64 (ni cs i))) := Lib.hid (fun V h => by
        have h1 := hck i hlt
        have h2 := hcc i (by have := HLC.out; omega)
        exact ⟨(h.cell (p := ⟨gk, ok + i, none⟩) (World.block_lt_of_cell? w _ h1)).trans h1, (h.cell (p := ⟨gc, oc + i, none⟩) (World.block_lt_of_cell? w _ h2)).trans h2⟩)
      have HLE := Lib.hid (HLS.out i hlt)
      have HLT1 : Hid (i < a → lss low.data.toList (nth ks i).data.toList = false) := Lib.hid (fun h => HL1.out i h)
      have HLT2 : Hid (i = a → lss low.data.toList (nth ks i).data.toList = true) := Lib.hid (fun h => by rw [h]; exact HL2.out (by omega))
      have HP1 : Hid (i < a → nth P i = nth ks i ∧ ni R i = ni cs i) := Lib.hid (fun h => ⟨HPl.out i h, HQl.out i h⟩)
      have HP2 : Hid (a ≤ i → nth P (i + 1) = nth ks i ∧ ni R (i + 1) = ni cs i) := Lib.hid (fun h => ⟨HPg.out i h, HQg.out i h⟩)
      have HLP : Hid (P.length = ks.length + 1 ∧ R.length = ks.length + 1) := Lib.hid ⟨HPL.out, HQL.out⟩
      have g1 : (i : Int) < ks.length := by omega
      have g2 : (i : Int) < cs.length := by have := HLC.out; omega
      have hb64 := HN64.out
      clear hck hcc HLS HL1 HL2 HPl HQl HPg HQg HND HPL HQL
      generalize nth ks i = s at *
      generalize ni cs i = z at *
      have hz2 := hR.out.size
      obtain ⟨q0, q1, q2, q3, q4, q5, q6, q7⟩ := hR.out.box.cells
      have f5 := hR.out.box.frozen 5
      obtain ⟨e1, e2⟩ := HCE.out wr hR.out.below
      rcases Nat.lt_trichotomy i a with hia | hia | hia
      · obtain rfl : m = i := by rw [hm, if_neg (by omega)]
        have hd : decide (a < m) = false := decide_eq_false (by omega)
        rw [hd]
        have hls := HLT1.out hia
        obtain ⟨hp1, hr1⟩ := HP1.out hia
        have HPP := Lib.hid hp1
        have HRR := Lib.hid hr1
        clear hp1 hr1 HLT1 HLT2 HP1 HP2 f5 hm hd
        go_wp2_with fail
        refine (HLE.out _).mono ?_
        rintro e w3 ⟨rfl, hd3⟩
        rw [hls]
        have hR3 := Lib.hid (hR.out.keep (Drew.below hd3 _))
        clear hR hd3 hls HLE q0 q1 q2 q3 q4 q5 q6 q7 e1 e2
        obtain ⟨q0, q1, q2, q3, q4, q5, q6, q7⟩ := hR3.out.box.cells
        obtain ⟨e1, e2⟩ := HCE.out w3 hR3.out.below
        go_wp2_with (first | ((with_reducible show wpList _ _ _ (⟨some 44, _, _, _, _, _⟩ :: _) _ _); refine wpList_append_own _ rfl (.tmp 37) (.tmp 43) 22 rfl (w.heap.size + 2) 9 i0 (.string ⟨#[]⟩) 1 16 Try.underlying22 HI.out.1 HI.out.2.1 HI.out.2.2.1 HI.out.2.2.2 rfl (by decide) _ m _ rfl (hR3.out.keep (boxed_below w3 _)).keys ⟨w3.heap.size, 0, none⟩ 1 1 [.string s] rfl rfl (news_one w3 _ _) (ones_s _) (by have := HN64.out; unfold maxLen; omega) (by have := HN64.out; omega) (Nat.le_trans hR3.out.size (boxed_below w3 _).size) ?_; intro v1 w1 hown1 hgrow1 _; obtain ⟨a1, c1, rfl⟩ := row_form2 hown1; have H1 := Lib.hid ((hR3.out.keep (boxed_below w3 _)).addK hgrow1 hown1 (by have := HLP.out; omega) HPP.out); clear hown1 hgrow1 q0 q1 q2 q3 q4 q5 q6 q7 e1 e2; obtain ⟨q0, q1, q2, q3, q4, q5, q6, q7⟩ := H1.out.box.cells; obtain ⟨e1, e2⟩ := HCE.out w1 H1.out.below) | ((with_reducible show wpList _ _ _ (⟨some 52, _, _, _, _, _⟩ :: _) _ _); refine wpList_append_own _ rfl (.tmp 45) (.tmp 51) 24 rfl (w.heap.size + 2) 3 i1 (.int .i64 0) 1 8 Try.underlying24 HJ.out.1 HJ.out.2.1 HJ.out.2.2.1 HJ.out.2.2.2 rfl (by decide) _ m _ rfl (H1.out.keep (boxed_below w1 _)).kids ⟨w1.heap.size, 0, none⟩ 1 1 [.int .i64 z] rfl rfl (news_one w1 _ _) (ones_i _) (by have := HN64.out; unfold maxLen; omega) (by have := HN64.out; omega) (Nat.le_trans H1.out.size (boxed_below w1 _).size) ?_; intro v2 w2 hown2 hgrow2 _; obtain ⟨a2, c2, rfl⟩ := row_form2 hown2; have H2 := Lib.hid ((H1.out.keep (boxed_below w1 _)).addC hgrow2 hown2 (by have := HLP.out; omega) HRR.out); clear hown2 hgrow2 q0 q1 q2 q3 q4 q5 q6 q7 e1 e2; obtain ⟨q0, q1, q2, q3, q4, q5, q6, q7⟩ := H2.out.box.cells; obtain ⟨e1, e2⟩ := HCE.out w2 H2.out.below))
        go_roundw
        case rel => exact ⟨m + 1, m + 1, _, _, _, _, rfl, rfl, by rw [decide_eq_false (by omega)], by go_num, by omega, by rw [if_neg (by omega)], H2⟩
        case measure => simp [intOf]; omega
      · subst hia
        obtain rfl : m = i := by rw [hm, if_neg (by omega)]
        have hd : decide (m < m) = false := decide_eq_false (by omega)
        rw [hd]
        have hls := HLT2.out rfl
        obtain ⟨hp1, hr1⟩ := HP2.out (Nat.le_refl _)
        have HPP := Lib.hid hp1
        have HRR := Lib.hid hr1
        clear hp1 hr1 HLT1 HLT2 HP1 HP2 f5 hm hd
        go_wp2_with fail
        refine (HLE.out _).mono ?_
        rintro e w3 ⟨rfl, hd3⟩
        rw [hls]
        have hR3 := Lib.hid (hR.out.keep (Drew.below hd3 _))
        clear hR hd3 hls HLE q0 q1 q2 q3 q4 q5 q6 q7 e1 e2
        obtain ⟨q0, q1, q2, q3, q4, q5, q6, q7⟩ := hR3.out.box.cells
        obtain ⟨e1, e2⟩ := HCE.out w3 hR3.out.below
        go_wp2_with (first | ((with_reducible show wpList _ _ _ (⟨some 32, _, _, _, _, _⟩ :: _) _ _); refine wpList_append_own _ rfl (.tmp 29) (.tmp 31) 22 rfl (w.heap.size + 2) 9 i0 (.string ⟨#[]⟩) 1 16 Try.underlying22 HI.out.1 HI.out.2.1 HI.out.2.2.1 HI.out.2.2.2 rfl (by decide) _ m _ rfl (hR3.out.keep (boxed_below w3 _)).keys ⟨w3.heap.size, 0, none⟩ 1 1 [.string low] rfl rfl (news_one w3 _ _) (ones_s _) (by have := HN64.out; unfold maxLen; omega) (by have := HN64.out; omega) (Nat.le_trans hR3.out.size (boxed_below w3 _).size) ?_; intro v1 w1 hown1 hgrow1 _; obtain ⟨a1, c1, rfl⟩ := row_form2 hown1; have H1 := Lib.hid ((hR3.out.keep (boxed_below w3 _)).addK hgrow1 hown1 (by have := HLP.out; omega) HPa.out); clear hown1 hgrow1 q0 q1 q2 q3 q4 q5 q6 q7 e1 e2; obtain ⟨q0, q1, q2, q3, q4, q5, q6, q7⟩ := H1.out.box.cells; obtain ⟨e1, e2⟩ := HCE.out w1 H1.out.below) | ((with_reducible show wpList _ _ _ (⟨some 36, _, _, _, _, _⟩ :: _) _ _); refine wpList_append_own _ rfl (.tmp 33) (.tmp 35) 24 rfl (w.heap.size + 2) 3 i1 (.int .i64 0) 1 8 Try.underlying24 HJ.out.1 HJ.out.2.1 HJ.out.2.2.1 HJ.out.2.2.2 rfl (by decide) _ m _ rfl (H1.out.keep (boxed_below w1 _)).kids ⟨w1.heap.size, 0, none⟩ 1 1 [.int .i64 kid] rfl rfl (news_one w1 _ _) (ones_i _) (by have := HN64.out; unfold maxLen; omega) (by have := HN64.out; omega) (Nat.le_trans H1.out.size (boxed_below w1 _).size) ?_; intro v2 w2 hown2 hgrow2 _; obtain ⟨a2, c2, rfl⟩ := row_form2 hown2; have H2 := Lib.hid ((H1.out.keep (boxed_below w1 _)).addC hgrow2 hown2 (by have := HLP.out; omega) HQa.out); clear hown2 hgrow2 q0 q1 q2 q3 q4 q5 q6 q7 e1 e2; obtain ⟨q0, q1, q2, q3, q4, q5, q6, q7⟩ := H2.out.box.cells; obtain ⟨e1, e2⟩ := HCE.out w2 H2.out.below) | ((with_reducible show wpList _ _ _ (⟨some 44, _, _, _, _, _⟩ :: _) _ _); refine wpList_append_own _ rfl (.tmp 37) (.tmp 43) 22 rfl (w.heap.size + 2) 9 i0 (.string ⟨#[]⟩) 1 16 Try.underlying22 HI.out.1 HI.out.2.1 HI.out.2.2.1 HI.out.2.2.2 rfl (by decide) _ (m + 1) _ rfl (H2.out.keep (boxed_below w2 _)).keys ⟨w2.heap.size, 0, none⟩ 1 1 [.string s] rfl rfl (news_one w2 _ _) (ones_s _) (by have := HN64.out; unfold maxLen; omega) (by have := HN64.out; omega) (Nat.le_trans H2.out.size (boxed_below w2 _).size) ?_; intro v3 w3 hown3 hgrow3 _; obtain ⟨a3, c3, rfl⟩ := row_form2 hown3; have H3 := Lib.hid ((H2.out.keep (boxed_below w2 _)).addK hgrow3 hown3 (by have := HLP.out; omega) HPP.out); clear hown3 hgrow3 q0 q1 q2 q3 q4 q5 q6 q7 e1 e2; obtain ⟨q0, q1, q2, q3, q4, q5, q6, q7⟩ := H3.out.box.cells; obtain ⟨e1, e2⟩ := HCE.out w3 H3.out.below) | ((with_reducible show wpList _ _ _ (⟨some 52, _, _, _, _, _⟩ :: _) _ _); refine wpList_append_own _ rfl (.tmp 45) (.tmp 51) 24 rfl (w.heap.size + 2) 3 i1 (.int .i64 0) 1 8 Try.underlying24 HJ.out.1 HJ.out.2.1 HJ.out.2.2.1 HJ.out.2.2.2 rfl (by decide) _ (m + 1) _ rfl (H3.out.keep (boxed_below w3 _)).kids ⟨w3.heap.size, 0, none⟩ 1 1 [.int .i64 z] rfl rfl (news_one w3 _ _) (ones_i _) (by have := HN64.out; unfold maxLen; omega) (by have := HN64.out; omega) (Nat.le_trans H3.out.size (boxed_below w3 _).size) ?_; intro v4 w4 hown4 hgrow4 _; obtain ⟨a4, c4, rfl⟩ := row_form2 hown4; have H4 := Lib.hid ((H3.out.keep (boxed_below w3 _)).addC hgrow4 hown4 (by have := HLP.out; omega) HRR.out); clear hown4 hgrow4 q0 q1 q2 q3 q4 q5 q6 q7 e1 e2; obtain ⟨q0, q1, q2, q3, q4, q5, q6, q7⟩ := H4.out.box.cells; obtain ⟨e1, e2⟩ := HCE.out w4 H4.out.below))
        go_roundw
        case rel => exact ⟨m + 1, m + 1 + 1, _, _, _, _, rfl, rfl, by rw [decide_eq_true (by omega)], by go_num, by omega, by rw [if_pos (by omega)], H4⟩
        case measure => simp [intOf]; omega
      · obtain rfl : m = i + 1 := by rw [hm, if_pos hia]
        have hd : decide (a < i) = true := decide_eq_true hia
        rw [hd]
        obtain ⟨hp1, hr1⟩ := HP2.out (by omega)
        have HPP := Lib.hid hp1
        have HRR := Lib.hid hr1
        clear hp1 hr1 HLT1 HLT2 HP1 HP2 f5 hm hd HLE
        go_wp2_with (first | ((with_reducible show wpList _ _ _ (⟨some 44, _, _, _, _, _⟩ :: _) _ _); refine wpList_append_own _ rfl (.tmp 37) (.tmp 43) 22 rfl (w.heap.size + 2) 9 i0 (.string ⟨#[]⟩) 1 16 Try.underlying22 HI.out.1 HI.out.2.1 HI.out.2.2.1 HI.out.2.2.2 rfl (by decide) _ (i + 1) _ rfl (hR.out.keep (boxed_below wr _)).keys ⟨wr.heap.size, 0, none⟩ 1 1 [.string s] rfl rfl (news_one wr _ _) (ones_s _) (by have := HN64.out; unfold maxLen; omega) (by have := HN64.out; omega) (Nat.le_trans hR.out.size (boxed_below wr _).size) ?_; intro v1 w1 hown1 hgrow1 _; obtain ⟨a1, c1, rfl⟩ := row_form2 hown1; have H1 := Lib.hid ((hR.out.keep (boxed_below wr _)).addK hgrow1 hown1 (by have := HLP.out; omega) HPP.out); clear hown1 hgrow1 q0 q1 q2 q3 q4 q5 q6 q7 e1 e2; obtain ⟨q0, q1, q2, q3, q4, q5, q6, q7⟩ := H1.out.box.cells; obtain ⟨e1, e2⟩ := HCE.out w1 H1.out.below) | ((with_reducible show wpList _ _ _ (⟨some 52, _, _, _, _, _⟩ :: _) _ _); refine wpList_append_own _ rfl (.tmp 45) (.tmp 51) 24 rfl (w.heap.size + 2) 3 i1 (.int .i64 0) 1 8 Try.underlying24 HJ.out.1 HJ.out.2.1 HJ.out.2.2.1 HJ.out.2.2.2 rfl (by decide) _ (i + 1) _ rfl (H1.out.keep (boxed_below w1 _)).kids ⟨w1.heap.size, 0, none⟩ 1 1 [.int .i64 z] rfl rfl (news_one w1 _ _) (ones_i _) (by have := HN64.out; unfold maxLen; omega) (by have := HN64.out; omega) (Nat.le_trans H1.out.size (boxed_below w1 _).size) ?_; intro v2 w2 hown2 hgrow2 _; obtain ⟨a2, c2, rfl⟩ := row_form2 hown2; have H2 := Lib.hid ((H1.out.keep (boxed_below w1 _)).addC hgrow2 hown2 (by have := HLP.out; omega) HRR.out); clear hown2 hgrow2 q0 q1 q2 q3 q4 q5 q6 q7 e1 e2; obtain ⟨q0, q1, q2, q3, q4, q5, q6, q7⟩ := H2.out.box.cells; obtain ⟨e1, e2⟩ := HCE.out w2 H2.out.below))
        go_roundw
        case rel => exact ⟨i + 1, i + 1 + 1, _, _, _, _, rfl, rfl, by rw [decide_eq_true (by omega)], by go_num, by omega, by rw [if_pos (by omega)], H2⟩
        case measure => simp [intOf]; omega
    case neg =>
      obtain rfl : i = ks.length := by omega
      have HCE : Hid (∀ V, Below w.heap.size w V → True ∧ True) := Lib.hid (fun _ _ => ⟨trivial, trivial⟩)
      have HLP : Hid (P.length = ks.length + 1 ∧ R.length = ks.length + 1) := Lib.hid ⟨HPL.out, HQL.out⟩
      obtain ⟨q0, q1, q2, q3, q4, q5, q6, q7⟩ := hR.out.box.cells
      have hz2 := hR.out.size
      clear HLS HL1 HL2 HPl HQl HPg HQg HPL HQL
      by_cases hal : a < ks.length
      case pos =>
        obtain rfl : m = ks.length + 1 := by rw [hm, if_pos hal]
        have hd : decide (a < ks.length) = true := decide_eq_true hal
        rw [hd]
        clear hd hm q0 q1 q2 q3 q4 q5 q6 q7
        have H2 := hR
        have hq5 := H2.out.box.cells.2.2.2.2.2.1
        have hf5 := H2.out.box.frozen 5
        have hq7 := (H2.out.box.s5 (.slice ko (ks.length + 1) kc)).cells.2.2.2.2.2.2.2
        have hf7 := (H2.out.box.s5 (.slice ko (ks.length + 1) kc)).frozen 7
        go_upto_region 18 with fail
        have H3 := Lib.hid H2.out.put
        clear hq5 hf5 hq7 hf7
        refine @nameW (fun W => Code.wp _ _ _ _ W) _ ?_
        intro W6 hW6
        rw [← hW6] at H3
        clear hW6
        obtain ⟨q0, q1, q2, q3, q4, q5, q6, q7⟩ := H3.out.box.cells
        obtain ⟨t0, t1, t2, t3, t4, t5, t6, t7⟩ := H3.out.res.cells
        have f0 := H3.out.res.frozen 0
        have f1 := H3.out.res.frozen 1
        have f2 := H3.out.res.frozen 2
        have f3 := H3.out.res.frozen 3
        have f4 := H3.out.res.frozen 4
        have f5 := H3.out.res.frozen 5
        have f6 := H3.out.res.frozen 6
        have f7 := H3.out.res.frozen 7
        go_wp2
        refine bodyPost_ret (v := .agg #[.int .i64 lv, .string lo, .string hi, .bool la, .int .i64 nx, .slice ko (ks.length + 1) kc, .slice av vs.length cv, .slice co (ks.length + 1) c2]) (by simp [results, Try.results67, go_sem, *]) rfl ?_
        have hk := H3.out.keys
        have hv := H3.out.kids
        rw [List.take_of_length_le (by have := HLP.out; omega)] at hk hv
        have h9 := own_wr5 hk H3.out.res (by decide) [(0, .int .i64 lv), (1, .string lo), (2, .string hi), (3, .bool la), (4, .int .i64 nx), (5, .slice ko (ks.length + 1) kc), (6, .slice av vs.length cv), (7, .slice co (ks.length + 1) c2)]
        have h8 := own_wr5 hv H3.out.res (by decide) [(0, .int .i64 lv), (1, .string lo), (2, .string hi), (3, .bool la), (4, .int .i64 nx), (5, .slice ko (ks.length + 1) kc), (6, .slice av vs.length cv), (7, .slice co (ks.length + 1) c2)]
        have h7 := wr5_below (w.heap.size + 1) w.heap.size (by omega) [(0, .int .i64 lv), (1, .string lo), (2, .string hi), (3, .bool la), (4, .int .i64 nx), (5, .slice ko (ks.length + 1) kc), (6, .slice av vs.length cv), (7, .slice co (ks.length + 1) c2)] w W6 H3.out.below
        simp only [wr5] at h9 h8 h7
        refine ⟨ko, co, kc, c2, ?_, ?_, ?_, h7⟩
        · rw [HLP.out.1, HLP.out.2]
        · rw [HLP.out.1]; exact h9
        · rw [HLP.out.2]; exact h8
      case neg =>
        obtain rfl : a = ks.length := by omega
        obtain rfl : m = ks.length := by rw [hm, if_neg (by omega)]
        have hd : decide (ks.length < ks.length) = false := decide_eq_false (by omega)
        rw [hd]
        have HPP := HPa
        have HRR := HQa
        obtain ⟨e1, e2⟩ := HCE.out wr hR.out.below
        clear hd hm
        go_upto_region 16 with (first | ((with_reducible show wpList _ _ _ (⟨some 58, _, _, _, _, _⟩ :: _) _ _); refine wpList_append_own _ rfl (.tmp 55) (.tmp 57) 22 rfl (w.heap.size + 2) 9 i0 (.string ⟨#[]⟩) 1 16 Try.underlying22 HI.out.1 HI.out.2.1 HI.out.2.2.1 HI.out.2.2.2 rfl (by decide) _ ks.length _ rfl (hR.out.keep (boxed_below wr _)).keys ⟨wr.heap.size, 0, none⟩ 1 1 [.string low] rfl rfl (news_one wr _ _) (ones_s _) (by have := HN64.out; unfold maxLen; omega) (by have := HN64.out; omega) (Nat.le_trans hR.out.size (boxed_below wr _).size) ?_; intro v1 w1 hown1 hgrow1 _; obtain ⟨a1, c1, rfl⟩ := row_form2 hown1; have H1 := Lib.hid ((hR.out.keep (boxed_below wr _)).addK hgrow1 hown1 (by have := HLP.out; omega) HPP.out); clear hown1 hgrow1 q0 q1 q2 q3 q4 q5 q6 q7 e1 e2; obtain ⟨q0, q1, q2, q3, q4, q5, q6, q7⟩ := H1.out.box.cells; obtain ⟨e1, e2⟩ := HCE.out w1 H1.out.below) | ((with_reducible show wpList _ _ _ (⟨some 62, _, _, _, _, _⟩ :: _) _ _); refine wpList_append_own _ rfl (.tmp 59) (.tmp 61) 24 rfl (w.heap.size + 2) 3 i1 (.int .i64 0) 1 8 Try.underlying24 HJ.out.1 HJ.out.2.1 HJ.out.2.2.1 HJ.out.2.2.2 rfl (by decide) _ ks.length _ rfl (H1.out.keep (boxed_below w1 _)).kids ⟨w1.heap.size, 0, none⟩ 1 1 [.int .i64 kid] rfl rfl (news_one w1 _ _) (ones_i _) (by have := HN64.out; unfold maxLen; omega) (by have := HN64.out; omega) (Nat.le_trans H1.out.size (boxed_below w1 _).size) ?_; intro v2 w2 hown2 hgrow2 _; obtain ⟨a2, c2, rfl⟩ := row_form2 hown2; have H2 := Lib.hid ((H1.out.keep (boxed_below w1 _)).addC hgrow2 hown2 (by have := HLP.out; omega) HRR.out); clear hown2 hgrow2 q0 q1 q2 q3 q4 q5 q6 q7 e1 e2; obtain ⟨q0, q1, q2, q3, q4, q5, q6, q7⟩ := H2.out.box.cells; obtain ⟨e1, e2⟩ := HCE.out w2 H2.out.below))
        clear q0 q1 q2 q3 q4 q5 q6 q7 e1 e2
        have hq5 := H2.out.box.cells.2.2.2.2.2.1
        have hf5 := H2.out.box.frozen 5
        have hq7 := (H2.out.box.s5 (.slice a1 (ks.length + 1) c1)).cells.2.2.2.2.2.2.2
        have hf7 := (H2.out.box.s5 (.slice a1 (ks.length + 1) c1)).frozen 7
        go_upto_region 18 with fail
        have H3 := Lib.hid H2.out.put
        clear hq5 hf5 hq7 hf7
        refine @nameW (fun W => Code.wp _ _ _ _ W) _ ?_
        intro W6 hW6
        rw [← hW6] at H3
        clear hW6
        obtain ⟨q0, q1, q2, q3, q4, q5, q6, q7⟩ := H3.out.box.cells
        obtain ⟨t0, t1, t2, t3, t4, t5, t6, t7⟩ := H3.out.res.cells
        have f0 := H3.out.res.frozen 0
        have f1 := H3.out.res.frozen 1
        have f2 := H3.out.res.frozen 2
        have f3 := H3.out.res.frozen 3
        have f4 := H3.out.res.frozen 4
        have f5 := H3.out.res.frozen 5
        have f6 := H3.out.res.frozen 6
        have f7 := H3.out.res.frozen 7
        go_wp2
        refine bodyPost_ret (v := .agg #[.int .i64 lv, .string lo, .string hi, .bool la, .int .i64 nx, .slice a1 (ks.length + 1) c1, .slice av vs.length cv, .slice a2 (ks.length + 1) c2]) (by simp [results, Try.results67, go_sem, *]) rfl ?_
        have hk := H3.out.keys
        have hv := H3.out.kids
        rw [List.take_of_length_le (by have := HLP.out; omega)] at hk hv
        have h9 := own_wr5 hk H3.out.res (by decide) [(0, .int .i64 lv), (1, .string lo), (2, .string hi), (3, .bool la), (4, .int .i64 nx), (5, .slice a1 (ks.length + 1) c1), (6, .slice av vs.length cv), (7, .slice a2 (ks.length + 1) c2)]
        have h8 := own_wr5 hv H3.out.res (by decide) [(0, .int .i64 lv), (1, .string lo), (2, .string hi), (3, .bool la), (4, .int .i64 nx), (5, .slice a1 (ks.length + 1) c1), (6, .slice av vs.length cv), (7, .slice a2 (ks.length + 1) c2)]
        have h7 := wr5_below (w.heap.size + 1) w.heap.size (by omega) [(0, .int .i64 lv), (1, .string lo), (2, .string hi), (3, .bool la), (4, .int .i64 nx), (5, .slice a1 (ks.length + 1) c1), (6, .slice av vs.length cv), (7, .slice a2 (ks.length + 1) c2)] w W6 H3.out.below
        simp only [wr5] at h9 h8 h7
        refine ⟨a1, a2, c1, c2, ?_, ?_, ?_, h7⟩
        · rw [HLP.out.1, HLP.out.2]
        · rw [HLP.out.1]; exact h9
        · rw [HLP.out.2]; exact h8
end Go.Proofs.Ytmkglaghnjnooaa
