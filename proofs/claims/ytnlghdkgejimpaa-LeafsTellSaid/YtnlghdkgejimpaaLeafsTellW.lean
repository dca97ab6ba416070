/- sorted.Part at pairs, from the first one on: what it answers, in new memory. Condition: at most 2^38 pairs. leafs.Pairs, Next, Prev, Scan, pairAt, ofLeaf; the document's More. Condition: sizes that fit. leafs.Prev and Scan; the document's More. Condition: sizes that fit. The law LeafsTell, walked: the entries of a sound leaf, those behind and ahead of a text, and those of a range, are the document's; of others nothing panics. Condition: the node's rows are there. -/
import Derived.Test.YtnlghdkgejimpaaLeafDoc
import Derived.Laws.CopyOwn
import Derived.Test.YtnlghdkgejimpaaLeafThose
import Derived.Test.YtnlghdkgejimpaaLeafsBack
namespace Go.Proofs.Ytnlghdkgejimpaa
open Go.RowKit

theorem run_copy_pairs {P : Program} (w : World) (dT sT ty elem : TypeId) (i : TypeInfo) (g dCap : Nat) (a : Addr) (n sCap : Nat) (cur : Array Value) (t : TypeId) (cs : List Value)
    (hu : P.underlying dT = some (.slice elem)) (hi : P.info? elem = some i)
    (hg : w.heap[g]? = some (.cells cur t (0, 0))) (hn : cs.length = n * i.size)
    (hc : ∀ j v, cs[j]? = some v → w.cell? (a.add j) = some v) (hfit : cur.size = cs.length) (h1 : ∀ v ∈ cs, v.oneCell' = true) :
    ∃ w', (Builtin.copy_ #[dT, sT] ty #[.slice (some ⟨g, 0, none⟩) n dCap, .slice (some a) n sCap]).run P w = .ok (goInt n) w' ∧ w'.heap[g]? = some (.cells cs.toArray t (0, 0)) ∧ w.grownBy w' (some g) := by
  have hl := run_loadCells_list (P := P) w a cs hc
  have hst := run_storeCells_at P g 0 t cs 0 cur w hg (by omega) h1
  refine ⟨_, ?_, setRow_heap w g _ _ t _ hg, ⟨rfl, rfl, rfl, by simp [World.setRow], fun k _ hs => setRow_other w g k _ (fun e => hs (by rw [e]))⟩⟩
  rw [hn] at hl
  simp only [Nat.add_zero, List.take_zero, List.nil_append, Nat.zero_add] at hst
  rw [List.drop_eq_nil_of_le (by simp; omega), List.append_nil] at hst
  simp [Builtin.copy_, run_underlying hu, Builtin.lenOf, Builtin.firstCells, sizeOf, typeInfo, hi, hl, hst]

theorem wpList_copy_pairs {P : Program} {w : World} {ops : Array Oper} {rest : List Oper} {o : Oper} {a : Act} {Q : Exit → Act → World → Prop} (hgd : o.guard = none) (d s : Operand) (dT sT : TypeId)
    (ho : o.op = .call { callee := .builtin .copy, args := #[d, s], argTypes := #[dT, sT] }) (elem : TypeId) (i : TypeInfo) (hu : P.underlying dT = some (.slice elem)) (hi : P.info? elem = some i) (size : Nat) (hsz : i.size = size)
    (g n dCap sCap : Nat) (sp : Addr) (hd : a.eval d = .slice (some ⟨g, 0, none⟩) n dCap) (hs : a.eval s = .slice (some sp) n sCap)
    (cur : Array Value) (t : TypeId) (hg : w.heap[g]? = some (.cells cur t (0, 0))) (cs : List Value) (hn : cs.length = n * size)
    (hsrc : ∀ j v, cs[j]? = some v → w.cell? (sp.add j) = some v) (hfit : cur.size = cs.length) (h1 : ∀ v ∈ cs, v.oneCell' = true)
    (h : ∀ w', w'.heap[g]? = some (.cells cs.toArray t (0, 0)) → w.grownBy w' (some g) → wpList P ops Q rest (a.put o.dst (goInt n)) w') : wpList P ops Q (o :: rest) a w :=
  wpList_plain hgd fun _ hK => by
    subst hsz
    obtain ⟨w', hrun, h2, h3⟩ := run_copy_pairs (P := P) w dT sT o.type elem i g dCap sp n sCap cur t cs hu hi hg hn hsrc hfit h1
    unfold Oper.wp
    simp [execOp, ho, resolve, invoke, builtin, hd, hs, hrun, Result.andThen]
    exact hK _ _ (h w' h2 h3)

theorem pcells_ones (ps : List (ByteArray × Int)) : ∀ u ∈ pcells ps, u.oneCell' = true := by
  intro u hu
  unfold pcells at hu
  obtain ⟨p, _, h⟩ := List.mem_flatMap.1 hu
  simp at h
  rcases h with rfl | rfl <;> rfl
theorem RdP.srcs {w : World} {g o n c : Nat} {ps : List (ByteArray × Int)} (h : RdP w (.slice (some ⟨g, o, none⟩) n c) ps) (hn : 0 < n) : ∀ j v, (pcells ps)[j]? = some v → w.cell? ((⟨g, o, none⟩ : Addr).add j) = some v := by
  intro j v hj
  obtain ⟨g2, o2, e, hc⟩ := h.at_ 0 hn
  injection e with e
  injection e with e1 e2 _
  subst e1 e2
  have hl := h.len.1
  have hj2 : j < (pcells ps).length := (List.getElem?_eq_some_iff.1 hj).1
  rw [pcells_len] at hj2
  have hd : j / 2 < ps.length := by omega
  have h1 := hc (j / 2) (by omega)
  have h2 := pcells_get ps (j / 2) hd
  have ea : (⟨g, o, none⟩ : Addr).add j = ⟨g, o + j, none⟩ := by
    by_cases h0 : j = 0
    · subst h0; simp [Addr.add]
    · simp [Addr.add, h0]
  rw [ea]
  rcases Nat.mod_two_eq_zero_or_one j with hm | hm
  · have hj3 : j = j / 2 * 2 := by omega
    rw [hj3] at hj ⊢
    rw [h2.1] at hj
    rw [h1.1, ← hj]
  · have hj3 : j = j / 2 * 2 + 1 := by omega
    rw [hj3] at hj ⊢
    rw [h2.2] at hj
    rw [← Nat.add_assoc, h1.2, ← hj]

set_option maxHeartbeats 2000000 in
set_option maxRecDepth 100000 in
theorem laidPair_one (g gs os N c : Nat) (ps : List (ByteArray × Int)) (w : World) (hc : w.cell? ⟨g, 0, none⟩ = some (.slice (some ⟨gs, os, none⟩) N c)) (hr : RdP w (.slice (some ⟨gs, os, none⟩) N c) ps) (h0 : 0 < N) (hn : N ≤ 274877906943) :
    Calls Try.prog 98 #[.slice (some ⟨g, 0, none⟩) 1 1] w fun e w' => DelGives w w' e ps := by
  have hl := hr.len
  have HSRC := Lib.hid (hr.srcs h0)
  have HR := Lib.hid hr
  have HPN : Hid (ps.length = N) := Lib.hid hl.1
  have HPL : Hid ((pcells ps).length = N * 2) := Lib.hid (by rw [pcells_len, hl.1])
  obtain ⟨i0, hi, hz0, hz1, hz2⟩ := info_parts infoPair
  have HI := Lib.hid (show _ ∧ _ ∧ _ ∧ _ from ⟨hi, hz0, hz1, hz2⟩)
  clear hr hl hi hz0 hz1 hz2
  go_enter Try.func98, Try.ntmps98
  go_wp2
  go_loop [3, 12] (fun s i => ∃ k : Nat, i = .int .i64 k ∧ k ≤ 1 ∧ ((k = 0 ∧ s = .int .i64 0) ∨ (k = 1 ∧ s = .int .i64 N))) (fun _ i => 1 - (intOf i).toNat)
  case atStart => exact ⟨0, rfl, Nat.zero_le _, Or.inl ⟨rfl, rfl⟩⟩
  case round =>
    obtain ⟨k, rfl, hk, ⟨rfl, rfl⟩ | ⟨rfl, rfl⟩⟩ := hrel
    · go_wp2
      go_round
      case rel => exact ⟨1, by go_num, by omega, Or.inr ⟨rfl, by go_num⟩⟩
      case measure => simp [intOf]
    · go_wp2_with (refine wpList_make_full _ rfl (.tmp 21) (.tmp 21) 41 rfl w.heap.size 37 i0 (.agg #[.string ⟨#[]⟩, .int .u64 0]) 2 Try.underlying41 HI.out.1 HI.out.2.1 HI.out.2.2.1 .i64 .i64 _ _ N rfl rfl rfl rfl (by rw [HI.out.2.2.2]; omega) (by unfold maxLen; omega) (Nat.le_refl _) ?_; intro w1 hown hgrow)
      obtain ⟨cur, hcur, hcs⟩ : ∃ cur : Array Value, w1.heap[w.heap.size]? = some (.cells cur 37 (0, 0)) ∧ cur.size = N * 2 := by
        rcases hown.2 with ⟨e, hz⟩ | ⟨g', cap, cur, e, _, hg, _, _, hsz, _⟩
        · injection e with e _ _; cases e
        · injection e with e1 e2 e3
          injection e1 with e1
          injection e1 with e1 _ _
          subst e1
          subst e3
          exact ⟨cur, hg, hsz⟩
      have hb1 : Below w.heap.size w w1 := (Below.refl _ _).grown hgrow (Nat.le_refl _) (fun _ h => by cases h)
      have HCS := Lib.hid hcs
      have HCUR := Lib.hid hcur
      have HB1 := Lib.hid hb1
      clear hown hgrow hcur hcs hb1
      go_loopw [7, 25] (fun s i wr => ∃ j : Nat, i = .int .i64 j ∧ j ≤ 1 ∧ ((j = 0 ∧ s = .int .i64 0 ∧ Hid (wr.heap[w.heap.size]? = some (.cells cur 37 (0, 0)))) ∨ (j = 1 ∧ s = .int .i64 N ∧ Hid (wr.heap[w.heap.size]? = some (.cells (pcells ps).toArray 37 (0, 0))))) ∧ Hid (Below w.heap.size w wr)) (fun _ i _ => 1 - (intOf i).toNat)
      case atStart => exact ⟨0, rfl, Nat.zero_le _, Or.inl ⟨rfl, rfl, HCUR⟩, HB1⟩
      case round =>
        obtain ⟨j, rfl, hj, hrow, hb⟩ := hrel
        have hgl : g < w.heap.size := World.block_lt_of_cell? w _ hc
        have hcell := (hb.out.cell (p := ⟨g, 0, none⟩) hgl).trans hc
        rcases hrow with ⟨rfl, rfl, hrow⟩ | ⟨rfl, rfl, hrow⟩
        · have HSR : Hid (∀ j v, (pcells ps)[j]? = some v → wr.cell? ((⟨gs, os, none⟩ : Addr).add j) = some v) := Lib.hid ((HR.out.keep hb.out).srcs h0)
          go_wp2_with ((with_reducible show wpList _ _ _ (⟨some 34, _, _, _, _, _⟩ :: _) _ _); refine wpList_copy_pairs (o := ⟨some 34, _, _, _, _, _⟩) rfl (.tmp 32) (.tmp 33) 41 41 rfl 37 i0 Try.underlying41 HI.out.1 2 HI.out.2.2.1 w.heap.size N N c ⟨gs, os, none⟩ rfl rfl cur 37 hrow.out (pcells ps) HPL.out HSR.out (by rw [HCS.out, HPL.out]) (pcells_ones ps) ?_; intro w2 hg2 hk2; have HG2 := Lib.hid hg2; have HB2 := Lib.hid (hb.out.grown hk2 hb.out.size (fun k hk => by injection hk with hk; omega)); clear hg2 hk2)
          go_roundw
          case rel => exact ⟨1, by go_num, by omega, Or.inr ⟨rfl, by go_num, HG2⟩, HB2⟩
          case measure => simp [intOf]
        · have HE : Hid (OwnP wr w.heap.size (.slice (some ⟨w.heap.size, 0, none⟩) N N) ps) := Lib.hid (by
            unfold OwnP
            rw [HPN.out]
            exact ⟨HPL.out, Or.inr ⟨w.heap.size, N, (pcells ps).toArray, rfl, Nat.le_refl _, hrow.out, Nat.le_refl _, by unfold maxLen; omega, by simpa using HPL.out, by rw [← HPL.out]; simp⟩⟩)
          go_wp2
          go_ret
          exact ⟨_, rfl, HE.out, hb.out⟩

/-- Part of pairs, from the first one on. -/
theorem partP_any (v : Value) (to_ : Int) (ps : List (ByteArray × Int)) (w : World) (hr : RdP w v ps) (hn : ps.length ≤ 274877906943) :
    Calls Try.prog 66 #[v, .int .i64 0, .int .i64 to_] w fun e w' => DelGives w w' e (ps.take to_.toNat) := by
  obtain ⟨ao, c, rfl⟩ := hr.open
  obtain ⟨n, hL⟩ : ∃ n, n = ps.length := ⟨_, rfl⟩
  rw [← hL] at hr hn ⊢
  have HLN := Lib.hid hL
  clear hL
  have hl := hr.len
  have hc1 := hl.2.1
  have hc2 := hl.2.2
  clear hl
  by_cases h : 0 < (min to_ (n : Int))
  · obtain ⟨hi, hhi⟩ : ∃ hi : Nat, (hi : Int) = min to_ (n : Int) := ⟨(min to_ (n : Int)).toNat, by omega⟩
    have h1 : 0 < hi := by omega
    have h2 : hi ≤ n := by omega
    obtain ⟨gs, os, rfl, hcs⟩ := hr.at_ 0 (by omega)
    have htk : ps.take to_.toNat = ps.take hi := by
      by_cases hle : to_ ≤ n
      · rw [show to_.toNat = hi by omega]
      · rw [List.take_of_length_le (by have := HLN.out; omega), List.take_of_length_le (by have := HLN.out; omega)]
    have hlt : (ps.take hi).length = hi := by have := HLN.out; rw [List.length_take]; omega
    have hrt : RdP w (.slice (some ⟨gs, os, none⟩) hi c) (ps.take hi) := ⟨some ⟨gs, os, none⟩, c, by rw [hlt], by omega, hc2, fun _ => ⟨gs, os, rfl, fun j hj => by
      rw [hlt] at hj
      rw [ntp_take ps hi j hj (by have := HLN.out; omega)]
      exact hcs j (by omega)⟩⟩
    rw [htk]
    have HL := Lib.hid (fun W (hb : Below w.heap.size w W) gg (hcc : W.cell? ⟨gg, 0, none⟩ = some (.slice (some ⟨gs, os, none⟩) hi c)) => laidPair_one gg gs os hi c (ps.take hi) W hcc (hrt.keep hb) h1 (by omega))
    have hhc : hi ≤ c := by omega
    clear hr hrt hcs htk hlt
    have hto : (to_ = hi) ∨ ((n : Int) < to_ ∧ hi = n) := by omega
    clear h hhi
    rcases hto with rfl | ⟨ht, rfl⟩
    all_goals
      go_enter Try.func66, Try.ntmps66
      go_wp2_with fail
      all_goals first | (exfalso; omega) | skip
      all_goals
        refine (HL.out (w.alloc (.cells #[.slice (some ⟨gs, os, none⟩) _ c] 41)) (one_alloc w _).2 w.heap.size (cell_of_heap (heap_alloc_new w _))).mono ?_
        rintro e w3 ⟨u, rfl, ho, hb⟩
        have HO := Lib.hid (ho.base (one_alloc w _).2.size)
        have HB := Lib.hid ((one_alloc w _).2.trans (hb.mono (one_alloc w _).2.size))
        clear ho hb
        go_wp2
        go_ret
        exact ⟨u, rfl, HO.out, HB.out⟩
  · have htk : ps.take to_.toNat = [] := by
      rw [List.take_eq_nil_iff]
      by_cases hp : n = 0
      · exact Or.inr (List.eq_nil_of_length_eq_zero (by rw [← HLN.out]; exact hp))
      · left; omega
    rw [htk]
    by_cases ht : (n : Int) < to_
    all_goals
      (first | (have hz : (n : Int) ≤ 0 := by omega) | (have hz : to_ ≤ 0 := by omega))
      go_enter Try.func66, Try.ntmps66
      go_wp2_with fail
      all_goals first | (exfalso; omega) | (go_ret; exact ⟨_, rfl, OwnP.nil _ _, Below.refl _ _⟩)
end Go.Proofs.Ytnlghdkgejimpaa

namespace Go.Proofs.Ytnlghdkgejimpaa
open Go.RowKit

set_option maxHeartbeats 2000000 in
theorem pairAt_any (v : Value) (at_ : Int) (ps : List (ByteArray × Int)) (w : World) (hr : RdP w v ps) (hn : ps.length ≤ 274877906943) :
    Calls Try.prog 62 #[v, .int .i64 at_] w fun e w' => SelGives w w' e (if at_ < 0 then none else ps[at_.toNat]?) := by
  obtain ⟨ao, c, rfl⟩ := hr.open
  have hl := hr.len
  have hc1 := hl.2.1
  have hc2 := hl.2.2
  clear hl
  obtain ⟨n, hL⟩ : ∃ n, n = ps.length := ⟨_, rfl⟩
  rw [← hL] at hr hn hc1 ⊢
  have HLN := Lib.hid hL
  clear hL
  have HB := Lib.hid (one_alloc w (.cells #[.string ⟨#[]⟩, .int .u64 0] 37)).2
  by_cases h0 : at_ < 0
  · rw [if_pos h0]
    clear hr
    go_enter Try.func62, Try.ntmps62
    go_wp2
    refine bodyPost_ret (v := .tuple #[.agg #[.string ⟨#[]⟩, .int .u64 0], .bool false]) (by simp [results, Try.results62, go_sem, *]) rfl ⟨false, (⟨#[]⟩, 0), rfl, Or.inl ⟨rfl, rfl, rfl⟩, ?_⟩
    exact HB.out
  · rw [if_neg h0]
    by_cases h1 : (n : Int) ≤ at_
    · have HE : Hid (ps[at_.toNat]? = none) := Lib.hid (List.getElem?_eq_none (by have := HLN.out; omega))
      clear hr
      go_enter Try.func62, Try.ntmps62
      go_wp2
      refine bodyPost_ret (v := .tuple #[.agg #[.string ⟨#[]⟩, .int .u64 0], .bool false]) (by simp [results, Try.results62, go_sem, *]) rfl ⟨false, (⟨#[]⟩, 0), rfl, Or.inl ⟨rfl, rfl, HE.out⟩, ?_⟩
      exact HB.out
    · obtain ⟨i, rfl⟩ : ∃ i : Nat, at_ = i := ⟨at_.toNat, by omega⟩
      have hi : i < n := by omega
      obtain ⟨g, o, rfl, hcs⟩ := hr.at_ i hi
      have HE : Hid (ps[((i : Nat) : Int).toNat]? = some (ntp ps i)) := Lib.hid (by rw [Int.toNat_natCast, ntp_eq (by have := HLN.out; omega), List.getElem?_eq_getElem (by have := HLN.out; omega)])
      have e1 := (hcs i hi).1
      have e2 := (hcs i hi).2
      have hgl : g < w.heap.size := World.block_lt_of_cell? w _ e1
      have d1 := (HB.out.cell (p := ⟨g, o + i * 2, none⟩) hgl).trans e1
      have d2 := (HB.out.cell (p := ⟨g, o + i * 2 + 1, none⟩) hgl).trans e2
      clear hr hcs
      generalize ntp ps i = p at *
      obtain ⟨s, z⟩ := p
      simp only at e1 e2 d1 d2
      have g1 : (i : Int) < n := by omega
      go_enter Try.func62, Try.ntmps62
      go_wp2
      refine bodyPost_ret (v := .tuple #[.agg #[.string s, .int .u64 z], .bool true]) (by simp [results, Try.results62, go_sem, *]) rfl ⟨true, (s, z), rfl, Or.inr ⟨rfl, HE.out⟩, ?_⟩
      exact (one_alloc w _).2

theorem filt_all (ss : List (ByteArray × Int)) : ss.filter (fun p => mAll p.1) = ss := by
  rw [List.filter_eq_self]; intro p _; rfl
set_option maxHeartbeats 2000000 in
theorem lpairs_any (lv nx : Int) (lo hi : ByteArray) (la : Bool) (ak av ac : Option Addr) (ck cv cc : Nat) (ks : List ByteArray) (vs : List Nat) (cs : List Int) (w : World) (hN : NdAt w ak av ac ks.length ck vs.length cv cs.length cc ks vs cs) (hn : ks.length ≤ 274877906943) (hz : ∀ x ∈ ks, x.size ≤ 140737488355328) :
    Calls Try.prog 20 #[.agg #[.int .i64 lv, .string lo, .string hi, .bool la, .int .i64 nx, .slice ak ks.length ck, .slice av vs.length cv, .slice ac cs.length cc]] w fun e w' => DelGives w w' e (prs ks vs) := by
  have HB := Lib.hid (boxed_below w (.cells #[.int .i64 lv, .string lo, .string hi, .bool la, .int .i64 nx, .slice ak ks.length ck, .slice av vs.length cv, .slice ac cs.length cc] 26))
  have HNB := Lib.hid (NB.new w #[.int .i64 lv, .string lo, .string hi, .bool la, .int .i64 nx, .slice ak ks.length ck, .slice av vs.length cv, .slice ac cs.length cc])
  have HT := Lib.hid (thoseAll_any lv nx lo hi la ak av ac ck cv cc ks vs cs _ (hN.keep HB.out) hn hz trivial)
  rw [filt_all] at HT
  obtain ⟨q0, q1, q2, q3, q4, q5, q6, q7⟩ := HNB.out.cells
  clear hN hn hz
  go_enter Try.func20, Try.ntmps20
  go_wp2_with fail
  refine HT.out.mono ?_
  rintro e w2 ⟨u, rfl, ho, hb⟩
  have HO := Lib.hid (ho.base HB.out.size)
  have HB2 := Lib.hid (HB.out.trans (hb.mono HB.out.size))
  clear ho hb
  go_wp2
  go_ret
  exact ⟨u, rfl, HO.out, HB2.out⟩

set_option maxHeartbeats 2000000 in
theorem ofLeafNext_any (lv nx : Int) (lo hi : ByteArray) (la : Bool) (ak av ac : Option Addr) (ck cv cc : Nat) (ks : List ByteArray) (vs : List Nat) (cs : List Int) (g1 : Nat) (k : ByteArray) (b : Bool) (w : World) (hN : NdAt w ak av ac ks.length ck vs.length cv cs.length cc ks vs cs) (hf : Fit lo hi ks ks.length vs.length cs.length) (hp : w.cell? ⟨g1, 0, none⟩ = some (.string k) ∧ k.size ≤ 140737488355328) (hb : b = true ↔ lv = 0 ∧ SoundP lv nx lo hi la ks.length vs.length cs.length ks cs 64) :
    Calls Try.prog 59 #[.agg #[.int .i64 lv, .string lo, .string hi, .bool la, .int .i64 nx, .slice ak ks.length ck, .slice av vs.length cv, .slice ac cs.length cc], .func (.func 60) #[] #[.pointer (some ⟨g1, 0, none⟩)]] w fun e w' => DelGives w w' e (if b then (prs ks vs).filter (fun p => mNext k p.1) else []) := by
  have HB := Lib.hid (boxed_below w (.cells #[.int .i64 lv, .string lo, .string hi, .bool la, .int .i64 nx, .slice ak ks.length ck, .slice av vs.length cv, .slice ac cs.length cc] 26))
  have HNB := Lib.hid (NB.new w #[.int .i64 lv, .string lo, .string hi, .bool la, .int .i64 nx, .slice ak ks.length ck, .slice av vs.length cv, .slice ac cs.length cc])
  obtain ⟨w1, hw1⟩ : ∃ w1, w1 = w.alloc (.cells #[.int .i64 lv, .string lo, .string hi, .bool la, .int .i64 nx, .slice ak ks.length ck, .slice av vs.length cv, .slice ac cs.length cc] 26) := ⟨_, rfl⟩
  rw [← hw1] at HB HNB
  have HW1 := Lib.hid hw1
  have HIS := Lib.hid (isLeaf_of lv nx lo hi la ak av ac ks.length ck vs.length cv cs.length cc ks vs cs b w1 (hN.keep HB.out) hf hb)
  have HT := Lib.hid (fun W (h : Below w.heap.size w W) => thoseNext_any lv nx lo hi la ak av ac ck cv cc ks vs cs g1 k W (hN.keep h) (by have := hf.n; omega) hf.ks ⟨(h.cell (p := ⟨g1, 0, none⟩) (World.block_lt_of_cell? w _ hp.1)).trans hp.1, hp.2⟩)
  obtain ⟨q0, q1, q2, q3, q4, q5, q6, q7⟩ := HNB.out.cells
  clear hN hf hp hb hw1
  generalize (prs ks vs).filter (fun p => mNext k p.1) = ss at *
  go_enter Try.func59, Try.ntmps59
  go_wp2_with fail
  rw [← HW1.out]
  refine HIS.out.mono ?_
  rintro e w2 ⟨rfl, hb2⟩
  have HB2 := Lib.hid hb2
  have HBW := Lib.hid (HB.out.trans (HB2.out.mono HB.out.size))
  clear hb2 q0 q1 q2 q3 q4 q5 q6 q7
  cases b with
  | false =>
    go_wp2
    go_ret
    exact ⟨_, rfl, OwnP.nil _ _, HBW.out⟩
  | true =>
    obtain ⟨q0, q1, q2, q3, q4, q5, q6, q7⟩ := (HNB.out.below HB2.out).cells
    go_wp2_with fail
    refine (HT.out _ HBW.out).mono ?_
    rintro e w3 ⟨u, rfl, ho, hb⟩
    have HO := Lib.hid (ho.base HBW.out.size)
    have HB3 := Lib.hid (HBW.out.trans (hb.mono HBW.out.size))
    clear ho hb
    go_wp2
    go_ret
    exact ⟨u, rfl, HO.out, HB3.out⟩

set_option maxHeartbeats 2000000 in
theorem ofLeafPrev_any (lv nx : Int) (lo hi : ByteArray) (la : Bool) (ak av ac : Option Addr) (ck cv cc : Nat) (ks : List ByteArray) (vs : List Nat) (cs : List Int) (g1 g2 : Nat) (all : Bool) (k : ByteArray) (b : Bool) (w : World) (hN : NdAt w ak av ac ks.length ck vs.length cv cs.length cc ks vs cs) (hf : Fit lo hi ks ks.length vs.length cs.length) (hp : w.cell? ⟨g1, 0, none⟩ = some (.bool all) ∧ w.cell? ⟨g2, 0, none⟩ = some (.string k) ∧ k.size ≤ 140737488355328) (hb : b = true ↔ lv = 0 ∧ SoundP lv nx lo hi la ks.length vs.length cs.length ks cs 64) :
    Calls Try.prog 59 #[.agg #[.int .i64 lv, .string lo, .string hi, .bool la, .int .i64 nx, .slice ak ks.length ck, .slice av vs.length cv, .slice ac cs.length cc], .func (.func 63) #[] #[.pointer (some ⟨g1, 0, none⟩), .pointer (some ⟨g2, 0, none⟩)]] w fun e w' => DelGives w w' e (if b then (prs ks vs).filter (fun p => mPrev all k p.1) else []) := by
  have HB := Lib.hid (boxed_below w (.cells #[.int .i64 lv, .string lo, .string hi, .bool la, .int .i64 nx, .slice ak ks.length ck, .slice av vs.length cv, .slice ac cs.length cc] 26))
  have HNB := Lib.hid (NB.new w #[.int .i64 lv, .string lo, .string hi, .bool la, .int .i64 nx, .slice ak ks.length ck, .slice av vs.length cv, .slice ac cs.length cc])
  obtain ⟨w1, hw1⟩ : ∃ w1, w1 = w.alloc (.cells #[.int .i64 lv, .string lo, .string hi, .bool la, .int .i64 nx, .slice ak ks.length ck, .slice av vs.length cv, .slice ac cs.length cc] 26) := ⟨_, rfl⟩
  rw [← hw1] at HB HNB
  have HW1 := Lib.hid hw1
  have HIS := Lib.hid (isLeaf_of lv nx lo hi la ak av ac ks.length ck vs.length cv cs.length cc ks vs cs b w1 (hN.keep HB.out) hf hb)
  have HT := Lib.hid (fun W (h : Below w.heap.size w W) => thosePrev_any lv nx lo hi la ak av ac ck cv cc ks vs cs g1 g2 all k W (hN.keep h) (by have := hf.n; omega) hf.ks ⟨(h.cell (p := ⟨g1, 0, none⟩) (World.block_lt_of_cell? w _ hp.1)).trans hp.1, (h.cell (p := ⟨g2, 0, none⟩) (World.block_lt_of_cell? w _ hp.2.1)).trans hp.2.1, hp.2.2⟩)
  obtain ⟨q0, q1, q2, q3, q4, q5, q6, q7⟩ := HNB.out.cells
  clear hN hf hp hb hw1
  generalize (prs ks vs).filter (fun p => mPrev all k p.1) = ss at *
  go_enter Try.func59, Try.ntmps59
  go_wp2_with fail
  rw [← HW1.out]
  refine HIS.out.mono ?_
  rintro e w2 ⟨rfl, hb2⟩
  have HB2 := Lib.hid hb2
  have HBW := Lib.hid (HB.out.trans (HB2.out.mono HB.out.size))
  clear hb2 q0 q1 q2 q3 q4 q5 q6 q7
  cases b with
  | false =>
    go_wp2
    go_ret
    exact ⟨_, rfl, OwnP.nil _ _, HBW.out⟩
  | true =>
    obtain ⟨q0, q1, q2, q3, q4, q5, q6, q7⟩ := (HNB.out.below HB2.out).cells
    go_wp2_with fail
    refine (HT.out _ HBW.out).mono ?_
    rintro e w3 ⟨u, rfl, ho, hb⟩
    have HO := Lib.hid (ho.base HBW.out.size)
    have HB3 := Lib.hid (HBW.out.trans (hb.mono HBW.out.size))
    clear ho hb
    go_wp2
    go_ret
    exact ⟨u, rfl, HO.out, HB3.out⟩

theorem Two.cell {w : World} {g : Nat} {t : TypeId} {v : Value} (h : w.heap[g]? = some (.cells #[v] t (0, 0))) : w.cell? ⟨g, 0, none⟩ = some v := by simp [World.cell?, h]
/-- What Next and Prev tell. -/
def AskGives (w w' : World) (e : Ending) (r : Option (ByteArray × Int)) : Prop := SelGives w w' e r
set_option maxHeartbeats 2000000 in
set_option maxRecDepth 100000 in
theorem lnext_any (lv nx : Int) (lo hi : ByteArray) (la : Bool) (ak av ac : Option Addr) (ck cv cc : Nat) (ks : List ByteArray) (vs : List Nat) (cs : List Int) (k : ByteArray) (b : Bool) (w : World) (hN : NdAt w ak av ac ks.length ck vs.length cv cs.length cc ks vs cs) (hf : Fit lo hi ks ks.length vs.length cs.length) (hk : k.size ≤ 140737488355328) (hb : b = true ↔ lv = 0 ∧ SoundP lv nx lo hi la ks.length vs.length cs.length ks cs 64) :
    Calls Try.prog 17 #[.agg #[.int .i64 lv, .string lo, .string hi, .bool la, .int .i64 nx, .slice ak ks.length ck, .slice av vs.length cv, .slice ac cs.length cc], .string k] w fun e w' => SelGives w w' e (if b then ((prs ks vs).filter (fun p => mNext k p.1)).head? else none) := by
  obtain ⟨w1, hw1⟩ : ∃ w1, w1 = ((w.alloc (.cells #[.int .i64 lv, .string lo, .string hi, .bool la, .int .i64 nx, .slice ak ks.length ck, .slice av vs.length cv, .slice ac cs.length cc] 26)).alloc (.cells #[.string k] 9)).alloc (.cells #[.string ⟨#[]⟩, .int .u64 0] 37) := ⟨_, rfl⟩
  have hz1 : (w.alloc (.cells #[.int .i64 lv, .string lo, .string hi, .bool la, .int .i64 nx, .slice ak ks.length ck, .slice av vs.length cv, .slice ac cs.length cc] 26)).heap.size = w.heap.size + 1 := World.size_alloc _ _
  have hz2 : ((w.alloc (.cells #[.int .i64 lv, .string lo, .string hi, .bool la, .int .i64 nx, .slice ak ks.length ck, .slice av vs.length cv, .slice ac cs.length cc] 26)).alloc (.cells #[.string k] 9)).heap.size = w.heap.size + 1 + 1 := by rw [World.size_alloc, hz1]
  have b1 := boxed_below w (.cells #[.int .i64 lv, .string lo, .string hi, .bool la, .int .i64 nx, .slice ak ks.length ck, .slice av vs.length cv, .slice ac cs.length cc] 26)
  have b2 := boxed_below (w.alloc (.cells #[.int .i64 lv, .string lo, .string hi, .bool la, .int .i64 nx, .slice ak ks.length ck, .slice av vs.length cv, .slice ac cs.length cc] 26)) (.cells #[.string k] 9)
  have b3 := boxed_below ((w.alloc (.cells #[.int .i64 lv, .string lo, .string hi, .bool la, .int .i64 nx, .slice ak ks.length ck, .slice av vs.length cv, .slice ac cs.length cc] 26)).alloc (.cells #[.string k] 9)) (.cells #[.string ⟨#[]⟩, .int .u64 0] 37)
  have HNB : Hid (NB w1 w.heap.size #[.int .i64 lv, .string lo, .string hi, .bool la, .int .i64 nx, .slice ak ks.length ck, .slice av vs.length cv, .slice ac cs.length cc]) := Lib.hid (by rw [hw1]; exact ((NB.new w #[.int .i64 lv, .string lo, .string hi, .bool la, .int .i64 nx, .slice ak ks.length ck, .slice av vs.length cv, .slice ac cs.length cc]).below b2).below b3)
  have HKB : Hid (w1.cell? ⟨w.heap.size + 1, 0, none⟩ = some (.string k)) := Lib.hid (by
    have h := heap_alloc_new (w.alloc (.cells #[.int .i64 lv, .string lo, .string hi, .bool la, .int .i64 nx, .slice ak ks.length ck, .slice av vs.length cv, .slice ac cs.length cc] 26)) (.cells #[.string k] 9)
    rw [hz1] at h
    rw [hw1]
    exact Two.cell ((b3.block (w.heap.size + 1) (by rw [hz2]; omega)).trans h))
  have HRB : Hid (Two w1 (w.heap.size + 1 + 1) (⟨#[]⟩, 0)) := Lib.hid (by
    have h := heap_alloc_new ((w.alloc (.cells #[.int .i64 lv, .string lo, .string hi, .bool la, .int .i64 nx, .slice ak ks.length ck, .slice av vs.length cv, .slice ac cs.length cc] 26)).alloc (.cells #[.string k] 9)) (.cells #[.string ⟨#[]⟩, .int .u64 0] 37)
    rw [hz2] at h
    rw [hw1]
    exact h)
  have HB : Hid (Below w.heap.size w w1) := Lib.hid (by rw [hw1]; exact (b1.trans (b2.mono (by omega))).trans (b3.mono (by omega)))
  have HW1 := Lib.hid hw1
  have HOL := Lib.hid (ofLeafNext_any lv nx lo hi la ak av ac ck cv cc ks vs cs (w.heap.size + 1) k b w1 (hN.keep HB.out) hf ⟨HKB.out, hk⟩ hb)
  have HFL : Hid ((if b then (prs ks vs).filter (fun p => mNext k p.1) else []).length ≤ 274877906943) := Lib.hid (by
    cases b with
    | false => simp
    | true =>
      have := List.length_filter_le (fun (p : ByteArray × Int) => mNext k p.1) (prs ks vs)
      rw [prs_min] at this
      have := hf.n
      simp only [if_true]
      omega)
  have HHD : Hid ((if b then ((prs ks vs).filter (fun p => mNext k p.1)).head? else none) = (if b then (prs ks vs).filter (fun p => mNext k p.1) else [])[(0 : Int).toNat]?) := Lib.hid (by
    cases b with
    | false => rfl
    | true => simp only [if_true]; rw [List.head?_eq_getElem?]; rfl)
  rw [HHD.out]
  generalize (if b then (prs ks vs).filter (fun p => mNext k p.1) else []) = ss at *
  obtain ⟨q0, q1, q2, q3, q4, q5, q6, q7⟩ := HNB.out.cells
  clear hN hf hk hb hw1 hz1 hz2 b1 b2 b3 HHD
  go_enter Try.func17, Try.ntmps17
  go_wp2_with fail
  rw [← HW1.out]
  refine HOL.out.mono ?_
  rintro e w2 ⟨u, rfl, ho, hb2⟩
  have HO := Lib.hid ho
  have HB2 := Lib.hid hb2
  clear ho hb2 q0 q1 q2 q3 q4 q5 q6 q7
  go_wp2_with fail
  refine (pairAt_any u 0 ss w2 HO.out.rd HFL.out).mono ?_
  rintro e w3 ⟨b3, p, rfl, hp, hb3⟩
  rw [if_neg (by omega)] at hp
  have HP := Lib.hid hp
  have HB3 := Lib.hid (HB2.out.trans (hb3.mono HB2.out.size))
  have HR3 : Hid (Two w3 (w.heap.size + 1 + 1) (⟨#[]⟩, 0)) := Lib.hid ((HB3.out.block _ (lt_of_block HRB.out)).trans HRB.out)
  have HBW := Lib.hid (HB.out.trans (HB3.out.mono HB.out.size))
  clear hp hb3
  have z0 := HR3.out.c0
  have z1 := HR3.out.c1
  have f0 := HR3.out.f (i := 0)
  have f1 := HR3.out.f (i := 1)
  obtain ⟨s, z⟩ := p
  go_wp2
  refine bodyPost_ret (v := .tuple #[.agg #[.string s, .int .u64 z], .bool b3]) (by simp [results, Try.results17, go_sem, z0, z1]) rfl ⟨b3, (s, z), rfl, HP.out, ?_⟩
  exact (HBW.out.setCell (by show w.heap.size ≤ w.heap.size + 1 + 1; omega) _).setCell (by show w.heap.size ≤ w.heap.size + 1 + 1; omega) _
end Go.Proofs.Ytnlghdkgejimpaa

namespace Go.Proofs.Ytnlghdkgejimpaa
open Go.RowKit

set_option maxHeartbeats 2000000 in
set_option maxRecDepth 100000 in
theorem lprev_any (lv nx : Int) (lo hi : ByteArray) (la : Bool) (ak av ac : Option Addr) (ck cv cc : Nat) (ks : List ByteArray) (vs : List Nat) (cs : List Int) (k : ByteArray) (all : Bool) (b : Bool) (w : World) (hN : NdAt w ak av ac ks.length ck vs.length cv cs.length cc ks vs cs) (hf : Fit lo hi ks ks.length vs.length cs.length) (hk : k.size ≤ 140737488355328) (hb : b = true ↔ lv = 0 ∧ SoundP lv nx lo hi la ks.length vs.length cs.length ks cs 64) :
    Calls Try.prog 18 #[.agg #[.int .i64 lv, .string lo, .string hi, .bool la, .int .i64 nx, .slice ak ks.length ck, .slice av vs.length cv, .slice ac cs.length cc], .string k, .bool all] w fun e w' => SelGives w w' e (if b then ((prs ks vs).filter (fun p => mPrev all k p.1)).getLast? else none) := by
  obtain ⟨wa, hwa⟩ : ∃ wa, wa = w.alloc (.cells #[.int .i64 lv, .string lo, .string hi, .bool la, .int .i64 nx, .slice ak ks.length ck, .slice av vs.length cv, .slice ac cs.length cc] 26) := ⟨_, rfl⟩
  obtain ⟨wb, hwb⟩ : ∃ wb, wb = wa.alloc (.cells #[.string k] 9) := ⟨_, rfl⟩
  obtain ⟨wc, hwc⟩ : ∃ wc, wc = wb.alloc (.cells #[.bool all] 4) := ⟨_, rfl⟩
  obtain ⟨w1, hw1⟩ : ∃ w1, w1 = wc.alloc (.cells #[.string ⟨#[]⟩, .int .u64 0] 37) := ⟨_, rfl⟩
  have za : wa.heap.size = w.heap.size + 1 := by rw [hwa, World.size_alloc]
  have zb : wb.heap.size = w.heap.size + 1 + 1 := by rw [hwb, World.size_alloc, za]
  have zc : wc.heap.size = w.heap.size + 1 + 1 + 1 := by rw [hwc, World.size_alloc, zb]
  have b1 : Below w.heap.size w wa := by rw [hwa]; exact boxed_below w _
  have b2 : Below wa.heap.size wa wb := by rw [hwb]; exact boxed_below wa _
  have b3 : Below wb.heap.size wb wc := by rw [hwc]; exact boxed_below wb _
  have b4 : Below wc.heap.size wc w1 := by rw [hw1]; exact boxed_below wc _
  have HNB : Hid (NB w1 w.heap.size #[.int .i64 lv, .string lo, .string hi, .bool la, .int .i64 nx, .slice ak ks.length ck, .slice av vs.length cv, .slice ac cs.length cc]) := Lib.hid (by
    have h : NB wa w.heap.size #[.int .i64 lv, .string lo, .string hi, .bool la, .int .i64 nx, .slice ak ks.length ck, .slice av vs.length cv, .slice ac cs.length cc] := by rw [hwa]; exact NB.new w #[.int .i64 lv, .string lo, .string hi, .bool la, .int .i64 nx, .slice ak ks.length ck, .slice av vs.length cv, .slice ac cs.length cc]
    exact ((h.below b2).below b3).below b4)
  have HKB : Hid (w1.cell? ⟨w.heap.size + 1, 0, none⟩ = some (.string k)) := Lib.hid (by
    have h := heap_alloc_new wa (.cells #[.string k] 9)
    rw [za, ← hwb] at h
    exact Two.cell ((b4.block (w.heap.size + 1) (by rw [zc]; omega)).trans ((b3.block (w.heap.size + 1) (by rw [zb]; omega)).trans h)))
  have HAB : Hid (w1.cell? ⟨w.heap.size + 1 + 1, 0, none⟩ = some (.bool all)) := Lib.hid (by
    have h := heap_alloc_new wb (.cells #[.bool all] 4)
    rw [zb, ← hwc] at h
    exact Two.cell ((b4.block (w.heap.size + 1 + 1) (by rw [zc]; omega)).trans h))
  have HRB : Hid (Two w1 (w.heap.size + 1 + 1 + 1) (⟨#[]⟩, 0)) := Lib.hid (by
    have h := heap_alloc_new wc (.cells #[.string ⟨#[]⟩, .int .u64 0] 37)
    rw [zc, ← hw1] at h
    exact h)
  have HB : Hid (Below w.heap.size w w1) := Lib.hid (((b1.trans (b2.mono (by omega))).trans (b3.mono (by omega))).trans (b4.mono (by omega)))
  have HW1 : Hid (w1 = (((w.alloc (.cells #[.int .i64 lv, .string lo, .string hi, .bool la, .int .i64 nx, .slice ak ks.length ck, .slice av vs.length cv, .slice ac cs.length cc] 26)).alloc (.cells #[.string k] 9)).alloc (.cells #[.bool all] 4)).alloc (.cells #[.string ⟨#[]⟩, .int .u64 0] 37)) := Lib.hid (by rw [hw1, hwc, hwb, hwa])
  have HOL := Lib.hid (ofLeafPrev_any lv nx lo hi la ak av ac ck cv cc ks vs cs (w.heap.size + 1 + 1) (w.heap.size + 1) all k b w1 (hN.keep HB.out) hf ⟨HAB.out, HKB.out, hk⟩ hb)
  have HFL : Hid ((if b then (prs ks vs).filter (fun p => mPrev all k p.1) else []).length ≤ 274877906943) := Lib.hid (by
    cases b with
    | false => simp
    | true =>
      have := List.length_filter_le (fun (p : ByteArray × Int) => mPrev all k p.1) (prs ks vs)
      rw [prs_min] at this
      have := hf.n
      simp only [if_true]
      omega)
  have HHD : Hid ((if b then ((prs ks vs).filter (fun p => mPrev all k p.1)).getLast? else none) = (if b then (prs ks vs).filter (fun p => mPrev all k p.1) else []).getLast?) := Lib.hid (by
    cases b <;> rfl)
  rw [HHD.out]
  generalize (if b then (prs ks vs).filter (fun p => mPrev all k p.1) else []) = ss at *
  have HLL : Hid ((if (ss.length : Int) - 1 < 0 then none else ss[((ss.length : Int) - 1).toNat]?) = ss.getLast?) := Lib.hid (by
    rw [List.getLast?_eq_getElem?]
    by_cases h : (ss.length : Int) - 1 < 0
    · rw [if_pos h, List.getElem?_eq_none (by omega)]
    · rw [if_neg h, show ((ss.length : Int) - 1).toNat = ss.length - 1 by omega])
  obtain ⟨q0, q1, q2, q3, q4, q5, q6, q7⟩ := HNB.out.cells
  clear hN hf hk hb hw1 hwa hwb hwc za zb zc b1 b2 b3 b4 HHD
  go_enter Try.func18, Try.ntmps18
  go_wp2_with fail
  rw [← HW1.out]
  refine HOL.out.mono ?_
  rintro e w2 ⟨u, rfl, ho, hb2⟩
  obtain ⟨uo, uc, rfl⟩ := ho.rd.open
  have HO := Lib.hid ho
  have HB2 := Lib.hid hb2
  clear ho hb2 q0 q1 q2 q3 q4 q5 q6 q7
  have HPT := Lib.hid (pairAt_any _ ((ss.length : Int) - 1) ss w2 HO.out.rd HFL.out)
  rw [HLL.out] at HPT
  obtain ⟨n, hn⟩ : ∃ n, n = ss.length := ⟨_, rfl⟩
  have hnb : n ≤ 274877906943 := by rw [hn]; exact HFL.out
  rw [← hn] at HPT ⊢
  clear hn
  go_wp2_with fail
  refine HPT.out.mono ?_
  rintro e w3 ⟨b3, p, rfl, hp, hb3⟩
  have HP := Lib.hid hp
  have HB3 := Lib.hid (HB2.out.trans (hb3.mono HB2.out.size))
  have HR3 : Hid (Two w3 (w.heap.size + 1 + 1 + 1) (⟨#[]⟩, 0)) := Lib.hid ((HB3.out.block _ (lt_of_block HRB.out)).trans HRB.out)
  have HBW := Lib.hid (HB.out.trans (HB3.out.mono HB.out.size))
  clear hp hb3
  have z0 := HR3.out.c0
  have z1 := HR3.out.c1
  have f0 := HR3.out.f (i := 0)
  have f1 := HR3.out.f (i := 1)
  obtain ⟨s, z⟩ := p
  go_wp2
  refine bodyPost_ret (v := .tuple #[.agg #[.string s, .int .u64 z], .bool b3]) (by simp [results, Try.results18, go_sem, z0, z1]) rfl ⟨b3, (s, z), rfl, HP.out, ?_⟩
  exact (HBW.out.setCell (by show w.heap.size ≤ w.heap.size + 1 + 1 + 1; omega) _).setCell (by show w.heap.size ≤ w.heap.size + 1 + 1 + 1; omega) _

def moreB (many : Nat) (limit : Int) (la : Bool) (hi high : ByteArray) : Bool := decide ((many : Int) < limit) && !la && !lss high.data.toList hi.data.toList
set_option maxHeartbeats 2000000 in
theorem rmore_any (lv nx : Int) (lo hi : ByteArray) (la : Bool) (ak av ac : Option Addr) (ck cv cc : Nat) (ks : List ByteArray) (vs : List Nat) (cs : List Int) (many : Nat) (high : ByteArray) (limit : Int) (w : World) (hh : hi.size ≤ 140737488355328) (hk : high.size ≤ 140737488355328) :
    Calls Try.prog 27 #[.agg #[.int .i64 lv, .string lo, .string hi, .bool la, .int .i64 nx, .slice ak ks.length ck, .slice av vs.length cv, .slice ac cs.length cc], .int .i64 many, .string high, .int .i64 limit] w fun e w' => e = .returned (.bool (moreB many limit la hi high)) ∧ Below w.heap.size w w' := by
  have HB := Lib.hid (boxed_below w (.cells #[.int .i64 lv, .string lo, .string hi, .bool la, .int .i64 nx, .slice ak ks.length ck, .slice av vs.length cv, .slice ac cs.length cc] 26))
  have HNB := Lib.hid (NB.new w #[.int .i64 lv, .string lo, .string hi, .bool la, .int .i64 nx, .slice ak ks.length ck, .slice av vs.length cv, .slice ac cs.length cc])
  have HL := Lib.hid (fun W => less_any high hi W hk hh)
  obtain ⟨q0, q1, q2, q3, q4, q5, q6, q7⟩ := HNB.out.cells
  unfold moreB
  clear hh hk
  by_cases h : (many : Int) < limit
  · rw [decide_eq_true h]
    cases la with
    | true =>
      go_enter Try.func27, Try.ntmps27
      go_wp2
      go_ret
      exact ⟨rfl, HB.out⟩
    | false =>
      generalize lss high.data.toList hi.data.toList = r at *
      go_enter Try.func27, Try.ntmps27
      go_wp2_with fail
      refine (HL.out _).mono ?_
      rintro e w2 ⟨rfl, hd⟩
      have HB2 := Lib.hid (HB.out.trans ((drew_below hd _).mono HB.out.size))
      clear hd
      go_wp2
      go_ret
      exact ⟨by cases r <;> rfl, HB2.out⟩
  · rw [decide_eq_false h]
    have h2 : limit ≤ many := by omega
    go_enter Try.func27, Try.ntmps27
    go_wp2
    go_ret
    exact ⟨rfl, HB.out⟩

def ScanGives (w w' : World) (e : Ending) (l : List (ByteArray × Int)) (m : Bool) : Prop := ∃ u, e = .returned (.tuple #[u, .bool m]) ∧ OwnP w' w.heap.size u l ∧ Below w.heap.size w w'
set_option maxHeartbeats 2000000 in
set_option maxRecDepth 100000 in
theorem lscan_any (lv nx : Int) (lo hi : ByteArray) (la : Bool) (ak av ac : Option Addr) (ck cv cc : Nat) (ks : List ByteArray) (vs : List Nat) (cs : List Int) (low high : ByteArray) (limit : Int) (w : World) (hN : NdAt w ak av ac ks.length ck vs.length cv cs.length cc ks vs cs) (hf : Fit lo hi ks ks.length vs.length cs.length) (hk : low.size ≤ 140737488355328) (hk2 : high.size ≤ 140737488355328) :
    Calls Try.prog 19 #[.agg #[.int .i64 lv, .string lo, .string hi, .bool la, .int .i64 nx, .slice ak ks.length ck, .slice av vs.length cv, .slice ac cs.length cc], .string low, .string high, .int .i64 limit] w fun e w' => ScanGives w w' e (((prs ks vs).filter (fun p => mScan low high p.1)).take limit.toNat) (moreB (((prs ks vs).filter (fun p => mScan low high p.1)).take limit.toNat).length limit la hi high) := by
  obtain ⟨wa, hwa⟩ : ∃ wa, wa = w.alloc (.cells #[.int .i64 lv, .string lo, .string hi, .bool la, .int .i64 nx, .slice ak ks.length ck, .slice av vs.length cv, .slice ac cs.length cc] 26) := ⟨_, rfl⟩
  obtain ⟨wb, hwb⟩ : ∃ wb, wb = wa.alloc (.cells #[.string low] 9) := ⟨_, rfl⟩
  obtain ⟨w1, hw1⟩ : ∃ w1, w1 = wb.alloc (.cells #[.string high] 9) := ⟨_, rfl⟩
  have za : wa.heap.size = w.heap.size + 1 := by rw [hwa, World.size_alloc]
  have zb : wb.heap.size = w.heap.size + 1 + 1 := by rw [hwb, World.size_alloc, za]
  have b1 : Below w.heap.size w wa := by rw [hwa]; exact boxed_below w _
  have b2 : Below wa.heap.size wa wb := by rw [hwb]; exact boxed_below wa _
  have b3 : Below wb.heap.size wb w1 := by rw [hw1]; exact boxed_below wb _
  have HNB : Hid (NB w1 w.heap.size #[.int .i64 lv, .string lo, .string hi, .bool la, .int .i64 nx, .slice ak ks.length ck, .slice av vs.length cv, .slice ac cs.length cc]) := Lib.hid (by
    have h : NB wa w.heap.size #[.int .i64 lv, .string lo, .string hi, .bool la, .int .i64 nx, .slice ak ks.length ck, .slice av vs.length cv, .slice ac cs.length cc] := by rw [hwa]; exact NB.new w #[.int .i64 lv, .string lo, .string hi, .bool la, .int .i64 nx, .slice ak ks.length ck, .slice av vs.length cv, .slice ac cs.length cc]
    exact (h.below b2).below b3)
  have HKB : Hid (w1.heap[w.heap.size + 1]? = some (.cells #[.string low] 9 (0, 0))) := Lib.hid (by
    have h := heap_alloc_new wa (.cells #[.string low] 9)
    rw [za, ← hwb] at h
    exact (b3.block (w.heap.size + 1) (by rw [zb]; omega)).trans h)
  have HAB : Hid (w1.heap[w.heap.size + 1 + 1]? = some (.cells #[.string high] 9 (0, 0))) := Lib.hid (by
    have h := heap_alloc_new wb (.cells #[.string high] 9)
    rw [zb, ← hw1] at h
    exact h)
  have HB : Hid (Below w.heap.size w w1) := Lib.hid ((b1.trans (b2.mono (by omega))).trans (b3.mono (by omega)))
  have HW1 : Hid (w1 = ((w.alloc (.cells #[.int .i64 lv, .string lo, .string hi, .bool la, .int .i64 nx, .slice ak ks.length ck, .slice av vs.length cv, .slice ac cs.length cc] 26)).alloc (.cells #[.string low] 9)).alloc (.cells #[.string high] 9)) := Lib.hid (by rw [hw1, hwb, hwa])
  have HOL := Lib.hid (thoseScan_any lv nx lo hi la ak av ac ck cv cc ks vs cs (w.heap.size + 1) (w.heap.size + 1 + 1) low high w1 (hN.keep HB.out) (by have := hf.n; omega) hf.ks ⟨Two.cell HKB.out, Two.cell HAB.out, hk, hk2⟩)
  have HFL : Hid (((prs ks vs).filter (fun p => mScan low high p.1)).length ≤ 274877906943) := Lib.hid (by
    have := List.length_filter_le (fun (p : ByteArray × Int) => mScan low high p.1) (prs ks vs)
    rw [prs_min] at this
    have := hf.n
    omega)
  have HCM := Lib.hid (fun W => compare_any hi high W hf.hi hk2)
  have HLE := Lib.hid (mcmp3_le hi.data.toList high.data.toList)
  generalize (prs ks vs).filter (fun p => mScan low high p.1) = ss at *
  obtain ⟨q0, q1, q2, q3, q4, q5, q6, q7⟩ := HNB.out.cells
  clear hN hf hk hk2 hw1 hwa hwb za zb b1 b2 b3
  have HPT := Lib.hid (fun u W (h : RdP W u ss) => partP_any u limit ss W h (by have := HFL.out; omega))
  generalize ss.take limit.toNat = rs at HPT ⊢
  obtain ⟨mb, hmb⟩ : ∃ mb, mb = moreB rs.length limit la hi high := ⟨_, rfl⟩
  rw [← hmb]
  have HMB := Lib.hid hmb
  clear hmb
  go_enter Try.func19, Try.ntmps19
  go_wp2_with fail
  rw [← HW1.out]
  refine HOL.out.mono ?_
  rintro e w2 ⟨u, rfl, ho, hb2⟩
  have HO := Lib.hid ho
  have HB2 := Lib.hid hb2
  clear ho hb2 q0 q1 q2 q3 q4 q5 q6 q7
  go_wp2_with fail
  refine (HPT.out _ _ HO.out.rd).mono ?_
  rintro e w3 ⟨v3, rfl, ho3, hb3⟩
  have HB3 := Lib.hid (HB2.out.trans (hb3.mono HB2.out.size))
  have HBW := Lib.hid (HB.out.trans (HB3.out.mono HB.out.size))
  have HO3 := Lib.hid (ho3.base (Nat.le_trans HB.out.size HB2.out.size))
  clear ho3 hb3
  obtain ⟨ro, rc, rfl⟩ := HO3.out.rd.open
  obtain ⟨q0, q1, q2, q3, q4, q5, q6, q7⟩ := (HNB.out.below HB3.out).cells
  have hh := Two.cell ((HB3.out.block _ (lt_of_block HAB.out)).trans HAB.out)
  obtain ⟨n, hn⟩ : ∃ n, n = rs.length := ⟨_, rfl⟩
  rw [← hn] at HO3 HMB ⊢
  clear hn
  by_cases h : (n : Int) < limit
  · cases la with
    | true =>
      go_wp2
      go_ret2
      exact ⟨_, by rw [HMB.out]; unfold moreB; rw [decide_eq_true h]; rfl, HO3.out, HBW.out⟩
    | false =>
      generalize cmp3 hi.data.toList high.data.toList = c at *
      go_wp2_with fail
      refine (HCM.out _).mono ?_
      rintro e w4 ⟨rfl, hd⟩
      have HB4 := Lib.hid (HBW.out.trans ((drew_below hd _).mono HBW.out.size))
      have HO4 := Lib.hid (HO3.out.keep (drew_below hd _))
      clear hd q0 q1 q2 q3 q4 q5 q6 q7 hh
      go_wp2
      go_ret2
      exact ⟨_, by rw [HMB.out]; unfold moreB; rw [decide_eq_true h, ← HLE.out]; rfl, HO4.out, HB4.out⟩
  · have h2 : limit ≤ n := by omega
    go_wp2
    go_ret2
    exact ⟨_, by rw [HMB.out]; unfold moreB; rw [decide_eq_false (by omega)]; rfl, HO3.out, HBW.out⟩
end Go.Proofs.Ytnlghdkgejimpaa

namespace Go.Proofs.Ytnlghdkgejimpaa
open Go.RowKit

section
variable {ss : List (ByteArray × Int)}
theorem tell_next (hr : RiseP ss) (k : ByteArray) : selP (nextC k) nextB ss = (ss.filter (fun p => mNext k p.1)).head? := by
  have hsp := selP_spec (nextC k) nextB (fun x y z => lss_nt _ _ _) (fun x => lss_irrefl _) (fun x y => lss_asymm _ _) ss
  have hf : RiseP (ss.filter (fun p => mNext k p.1)) := hr.filter _
  cases hs : selP (nextC k) nextB ss with
  | none =>
    have h1 := hsp.1 hs
    have : ss.filter (fun p => mNext k p.1) = [] := by
      rw [List.filter_eq_nil_iff]
      intro p hp
      have := h1 p hp
      unfold nextC at this
      unfold mNext
      rw [this]; simp
    rw [this]; rfl
  | some b =>
    obtain ⟨h1, h2, h3⟩ := hsp.2 b hs
    have hm : b ∈ ss.filter (fun p => mNext k p.1) := List.mem_filter.2 ⟨h1, h2⟩
    cases hl : ss.filter (fun p => mNext k p.1) with
    | nil => rw [hl] at hm; cases hm
    | cons x xs =>
      rw [hl] at hm hf
      rcases List.mem_cons.1 hm with rfl | hx
      · rfl
      · have h4 := (List.pairwise_cons.1 hf).1 b hx
        have hxm : x ∈ ss.filter (fun p => mNext k p.1) := by rw [hl]; exact List.mem_cons_self
        have h5 := h3 x (List.mem_filter.1 hxm).1 (List.mem_filter.1 hxm).2
        unfold nextB at h5
        rw [h4] at h5; cases h5
theorem tell_last {f : List (ByteArray × Int)} (hf : RiseP f) {b : ByteArray × Int} (hm : b ∈ f) (hb : ∀ x ∈ f, lss b.1.data.toList x.1.data.toList = false) : f.getLast? = some b := by
  obtain ⟨i, hi, rfl⟩ := List.getElem_of_mem hm
  rw [List.getLast?_eq_getElem?]
  by_cases e : i = f.length - 1
  · subst e; exact List.getElem?_eq_getElem hi
  · have h1 : f.length - 1 < f.length := by omega
    have := hb f[f.length - 1] (List.getElem_mem h1)
    rw [rise_lt hf i (f.length - 1) (by omega) h1] at this
    cases this
theorem tell_prev (hr : RiseP ss) (k : ByteArray) : selP (prevC k) prevB ss = (ss.filter (fun p => mPrev false k p.1)).getLast? := by
  have hsp := selP_spec (prevC k) prevB (fun x y z h g => lss_nt _ _ _ g h) (fun x => lss_irrefl _) (fun x y => lss_asymm _ _) ss
  have hf : RiseP (ss.filter (fun p => mPrev false k p.1)) := hr.filter _
  cases hs : selP (prevC k) prevB ss with
  | none =>
    have h1 := hsp.1 hs
    have : ss.filter (fun p => mPrev false k p.1) = [] := by
      rw [List.filter_eq_nil_iff]
      intro p hp
      have := h1 p hp
      unfold prevC at this
      unfold mPrev
      rw [this]; simp
    rw [this]; rfl
  | some b =>
    obtain ⟨h1, h2, h3⟩ := hsp.2 b hs
    exact (tell_last hf (List.mem_filter.2 ⟨h1, by unfold mPrev; unfold prevC at h2; rw [h2]; rfl⟩) (fun x hx => h3 x (List.mem_filter.1 hx).1 (by have := (List.mem_filter.1 hx).2; unfold mPrev at this; simpa [prevC] using this))).symm
theorem tell_max (hr : RiseP ss) (k : ByteArray) : selP (prevTC k) prevTB ss = (ss.filter (fun p => mPrev true k p.1)).getLast? := by
  have hsp := selP_spec (prevTC k) prevTB (fun x y z h g => lss_nt _ _ _ g h) (fun x => lss_irrefl _) (fun x y => lss_asymm _ _) ss
  have hf : RiseP (ss.filter (fun p => mPrev true k p.1)) := hr.filter _
  cases hs : selP (prevTC k) prevTB ss with
  | none =>
    have h1 := hsp.1 hs
    have : ss.filter (fun p => mPrev true k p.1) = [] := by
      rw [List.filter_eq_nil_iff]
      intro p hp
      have := h1 p hp
      cases this
    rw [this]; rfl
  | some b =>
    obtain ⟨h1, h2, h3⟩ := hsp.2 b hs
    exact (tell_last hf (List.mem_filter.2 ⟨h1, rfl⟩) (fun x hx => h3 x (List.mem_filter.1 hx).1 rfl)).symm
theorem tell_scan (low high : ByteArray) (limit : Int) : scanP ss low high limit = (ss.filter (fun p => mScan low high p.1)).take limit.toNat := rfl
end
theorem sel_same {b1 b2 : Bool} {p1 p2 : ByteArray × Int} {r : Option (ByteArray × Int)} (h1 : (b1 = false ∧ p1 = (⟨#[]⟩, 0) ∧ r = none) ∨ (b1 = true ∧ r = some p1)) (h2 : (b2 = false ∧ p2 = (⟨#[]⟩, 0) ∧ r = none) ∨ (b2 = true ∧ r = some p2)) : b2 = b1 ∧ p2 = p1 := by
  rcases h1 with ⟨rfl, rfl, h1⟩ | ⟨rfl, h1⟩
  · rcases h2 with ⟨rfl, rfl, h2⟩ | ⟨rfl, h2⟩
    · exact ⟨rfl, rfl⟩
    · rw [h1] at h2; cases h2
  · rcases h2 with ⟨rfl, rfl, h2⟩ | ⟨rfl, h2⟩
    · rw [h1] at h2; cases h2
    · rw [h1] at h2
      injection h2 with h2
      exact ⟨rfl, h2.symm⟩
theorem sel_none {b : Bool} {p : ByteArray × Int} (h : (b = false ∧ p = (⟨#[]⟩, 0) ∧ (none : Option (ByteArray × Int)) = none) ∨ (b = true ∧ none = some p)) : b = false ∧ p = (⟨#[]⟩, 0) := by
  rcases h with ⟨rfl, rfl, _⟩ | ⟨_, h⟩
  · exact ⟨rfl, rfl⟩
  · cases h
theorem Two.later {w w' : World} {g : Nat} {p : ByteArray × Int} (h : Two w g p) (hb : Below w.heap.size w w') : Two w' g p := (hb.block _ (lt_of_block h)).trans h
theorem Two.new (w : World) (p : ByteArray × Int) : Two (w.alloc (.cells #[.string p.1, .int .u64 p.2] 37)) w.heap.size p := heap_alloc_new w _

set_option maxHeartbeats 16000000 in
set_option maxRecDepth 100000 in
theorem leafsTell_any (lv nx : Int) (lo hi : ByteArray) (la : Bool) (ak av ac : Option Addr) (ck cv cc : Nat) (ks : List ByteArray) (vs : List Nat) (cs : List Int) (k high : ByteArray) (limit : Int) (w : World) (hN : NdAt w ak av ac ks.length ck vs.length cv cs.length cc ks vs cs) (hm0 : -9223372036854775808 ≤ limit) (hm1 : limit ≤ 9223372036854775807) :
    Calls Try.prog 4 #[.agg #[.int .i64 lv, .string lo, .string hi, .bool la, .int .i64 nx, .slice ak ks.length ck, .slice av vs.length cv, .slice ac cs.length cc], .string k, .string high, .int .i64 limit] w fun e w' => e = .returned (.bool true) ∧ Below w.heap.size w w' := by
  have HB := Lib.hid (boxed_below w (.cells #[.int .i64 lv, .string lo, .string hi, .bool la, .int .i64 nx, .slice ak ks.length ck, .slice av vs.length cv, .slice ac cs.length cc] 26))
  have HNB := Lib.hid (NB.new w #[.int .i64 lv, .string lo, .string hi, .bool la, .int .i64 nx, .slice ak ks.length ck, .slice av vs.length cv, .slice ac cs.length cc])
  have HND := Lib.hid (hN.keep HB.out)
  obtain ⟨w1, hw1⟩ : ∃ w1, w1 = w.alloc (.cells #[.int .i64 lv, .string lo, .string hi, .bool la, .int .i64 nx, .slice ak ks.length ck, .slice av vs.length cv, .slice ac cs.length cc] 26) := ⟨_, rfl⟩
  rw [← hw1] at HB HNB HND
  have HW1 := Lib.hid hw1
  have HL := Lib.hid (nlight_any lv nx lo hi la ak av ac ks.length ck vs.length cv cs.length cc ks w1 HND.out.k (by have := rd_len hN.v; omega) (by have := rd_len hN.c; omega))
  have HLV := Lib.hid lives11_any
  have HMM := Lib.hid (And.intro hm0 hm1)
  obtain ⟨q0, q1, q2, q3, q4, q5, q6, q7⟩ := HNB.out.cells
  clear hN hw1 hm0 hm1
  go_enter Try.func4, Try.ntmps4
  go_wp2_with fail
  rw [← HW1.out]
  refine HL.out.mono ?_
  rintro e w2 ⟨r, rfl, hr, hb2⟩
  have HP := Lib.hid hr
  have Hn := Lib.hid hb2
  clear hr hb2 q0 q1 q2 q3 q4 q5 q6 q7 HL HW1
  obtain ⟨q0, q1, q2, q3, q4, q5, q6, q7⟩ := (HNB.out.below Hn.out).cells
  cases r with
  | false =>
    have HE := Lib.hid (HB.out.trans (Hn.out.mono HB.out.size))
    go_wp2_with fail
    refine (HLV.out _).mono ?_
    rintro e wl ⟨rfl, hbl⟩
    have HBL := Lib.hid (HE.out.trans (hbl.mono HE.out.size))
    clear hbl
    go_wp2
    go_ret
    exact ⟨rfl, HBL.out⟩
  | true =>
    have HLP := Lib.hid (HP.out.1 rfl)
    have HFT := Lib.hid (fit_of_light HLP.out)
    by_cases hk : 100 < k.size
    case pos =>
      have hk2 : (100 : Int) < k.size := by omega
      have HE := Lib.hid (HB.out.trans (Hn.out.mono HB.out.size))
      go_wp2_with fail
      refine (HLV.out _).mono ?_
      rintro e wl ⟨rfl, hbl⟩
      have HBL := Lib.hid (HE.out.trans (hbl.mono HE.out.size))
      clear hbl
      go_wp2
      go_ret
      exact ⟨rfl, HBL.out⟩
    case neg =>
     by_cases hh : 100 < high.size
     case pos =>
      have hk2 : (k.size : Int) ≤ 100 := by omega
      have hh2 : (100 : Int) < high.size := by omega
      have HE := Lib.hid (HB.out.trans (Hn.out.mono HB.out.size))
      go_wp2_with fail
      refine (HLV.out _).mono ?_
      rintro e wl ⟨rfl, hbl⟩
      have HBL := Lib.hid (HE.out.trans (hbl.mono HE.out.size))
      clear hbl
      go_wp2
      go_ret
      exact ⟨rfl, HBL.out⟩
     case neg =>
      have hk2 : (k.size : Int) ≤ 100 := by omega
      have hh2 : (high.size : Int) ≤ 100 := by omega
      have hks : k.size ≤ 140737488355328 := by omega
      have hhs : high.size ≤ 140737488355328 := by omega
      obtain ⟨b, hb⟩ := bool_or (lv = 0 ∧ SoundP lv nx lo hi la ks.length vs.length cs.length ks cs 64)
      have HBB := Lib.hid hb
      have HS2 : Hid (ks.length ≤ 200 ∧ vs.length ≤ 200 ∧ cs.length ≤ 200) := Lib.hid (by have := HLP.out.n; omega)
      have HNX := Lib.hid (fun W (h : Below w1.heap.size w1 W) => lnext_any lv nx lo hi la ak av ac ck cv cc ks vs cs k b W (HND.out.keep h) HFT.out hks hb)
      have HPV := Lib.hid (fun al W (h : Below w1.heap.size w1 W) => lprev_any lv nx lo hi la ak av ac ck cv cc ks vs cs k al b W (HND.out.keep h) HFT.out hks hb)
      have HSC := Lib.hid (fun W (h : Below w1.heap.size w1 W) => lscan_any lv nx lo hi la ak av ac ck cv cc ks vs cs k high limit W (HND.out.keep h) HFT.out hks hhs)
      have HAL := Lib.hid (fun W (h : Below w1.heap.size w1 W) => lpairs_any lv nx lo hi la ak av ac ck cv cc ks vs cs W (HND.out.keep h) (by have := HS2.out; omega) HFT.out.ks)
      have HLF := Lib.hid (fun W (h : Below w1.heap.size w1 W) => rleaf_of lv nx lo hi la ak av ac ks.length ck vs.length cv cs.length cc ks vs cs b W (HND.out.keep h) HFT.out hb)
      have HKH := Lib.hid (And.intro hks hhs)
      obtain ⟨rs, hrs⟩ : ∃ rs, rs = ((prs ks vs).filter (fun p => mScan k high p.1)).take limit.toNat := ⟨_, rfl⟩
      obtain ⟨mb, hmb⟩ : ∃ mb, mb = moreB rs.length limit la hi high := ⟨_, rfl⟩
      rw [← hrs] at HSC
      rw [← hmb] at HSC
      have HRS := Lib.hid hrs
      have HMB := Lib.hid hmb
      clear hrs hmb
      clear hb hks hk hh hhs
      go_wp2_with fail
      refine (HNX.out _ Hn.out).mono ?_
      rintro e w3 ⟨b3, p3, rfl, hp3, hb3⟩
      have HP3 := Lib.hid hp3
      clear hp3
      clear q0 q1 q2 q3 q4 q5 q6 q7
      obtain ⟨W3, hW3⟩ : ∃ W, W = w3.alloc (.cells #[.string p3.1, .int .u64 p3.2] 37) := ⟨_, rfl⟩
      have hx3 := boxed_below w3 (.cells #[.string p3.1, .int .u64 p3.2] 37)
      have HT3 : Hid (Two W3 w3.heap.size p3) := Lib.hid (by rw [hW3]; exact Two.new _ _)
      rw [← hW3] at hx3
      have HW3 := Lib.hid hW3
      clear hW3
      have HZ3 := Lib.hid (hb3.trans (hx3.mono hb3.size))
      have Hn_3 := Lib.hid (Hn.out.trans (HZ3.out.mono Hn.out.size))
      clear HZ3 Hn
      have HS3 : Hid (Below W3.heap.size W3 W3) := Lib.hid (Below.refl _ _)
      clear hb3 hx3
      go_upto_region 4 with fail
      rw [← HW3.out]
      clear HW3
      obtain ⟨q0, q1, q2, q3, q4, q5, q6, q7⟩ := (HNB.out.below Hn_3.out).cells
      go_wp2_with fail
      refine (HPV.out false _ Hn_3.out).mono ?_
      rintro e w4 ⟨b4, p4, rfl, hp4, hb4⟩
      have HP4 := Lib.hid hp4
      clear hp4
      clear q0 q1 q2 q3 q4 q5 q6 q7
      obtain ⟨W4, hW4⟩ : ∃ W, W = w4.alloc (.cells #[.string p4.1, .int .u64 p4.2] 37) := ⟨_, rfl⟩
      have hx4 := boxed_below w4 (.cells #[.string p4.1, .int .u64 p4.2] 37)
      have HT4 : Hid (Two W4 w4.heap.size p4) := Lib.hid (by rw [hW4]; exact Two.new _ _)
      rw [← hW4] at hx4
      have HW4 := Lib.hid hW4
      clear hW4
      have HZ4 := Lib.hid (hb4.trans (hx4.mono hb4.size))
      have Hn_4 := Lib.hid (Hn_3.out.trans (HZ4.out.mono Hn_3.out.size))
      have HS3_4 := Lib.hid (HS3.out.trans (HZ4.out.mono HS3.out.size))
      clear HZ4 Hn_3 HS3
      have HS4 : Hid (Below W4.heap.size W4 W4) := Lib.hid (Below.refl _ _)
      clear hb4 hx4
      go_upto_region 5 with fail
      rw [← HW4.out]
      clear HW4
      obtain ⟨q0, q1, q2, q3, q4, q5, q6, q7⟩ := (HNB.out.below Hn_4.out).cells
      go_wp2_with fail
      refine (HPV.out true _ Hn_4.out).mono ?_
      rintro e w5 ⟨b5, p5, rfl, hp5, hb5⟩
      have HP5 := Lib.hid hp5
      clear hp5
      clear q0 q1 q2 q3 q4 q5 q6 q7
      obtain ⟨W5, hW5⟩ : ∃ W, W = w5.alloc (.cells #[.string p5.1, .int .u64 p5.2] 37) := ⟨_, rfl⟩
      have hx5 := boxed_below w5 (.cells #[.string p5.1, .int .u64 p5.2] 37)
      have HT5 : Hid (Two W5 w5.heap.size p5) := Lib.hid (by rw [hW5]; exact Two.new _ _)
      rw [← hW5] at hx5
      have HW5 := Lib.hid hW5
      clear hW5
      have HZ5 := Lib.hid (hb5.trans (hx5.mono hb5.size))
      have Hn_5 := Lib.hid (Hn_4.out.trans (HZ5.out.mono Hn_4.out.size))
      have HS3_5 := Lib.hid (HS3_4.out.trans (HZ5.out.mono HS3_4.out.size))
      have HS4_5 := Lib.hid (HS4.out.trans (HZ5.out.mono HS4.out.size))
      clear HZ5 Hn_4 HS3_4 HS4
      have HS5 : Hid (Below W5.heap.size W5 W5) := Lib.hid (Below.refl _ _)
      clear hb5 hx5
      go_upto_region 6 with fail
      rw [← HW5.out]
      clear HW5
      obtain ⟨q0, q1, q2, q3, q4, q5, q6, q7⟩ := (HNB.out.below Hn_5.out).cells
      go_wp2_with fail
      refine (HSC.out _ Hn_5.out).mono ?_
      rintro e w6 ⟨u6, rfl, ho6, hb6⟩
      clear q0 q1 q2 q3 q4 q5 q6 q7
      have HO6 := Lib.hid ho6
      clear ho6
      have HZ6 := Lib.hid (hb6)
      have Hn_6 := Lib.hid (Hn_5.out.trans (HZ6.out.mono Hn_5.out.size))
      have HS3_6 := Lib.hid (HS3_5.out.trans (HZ6.out.mono HS3_5.out.size))
      have HS4_6 := Lib.hid (HS4_5.out.trans (HZ6.out.mono HS4_5.out.size))
      have HS5_6 := Lib.hid (HS5.out.trans (HZ6.out.mono HS5.out.size))
      clear HZ6 Hn_5 HS3_5 HS4_5 HS5
      have HS6 : Hid (Below w6.heap.size w6 w6) := Lib.hid (Below.refl _ _)
      clear hb6
      obtain ⟨q0, q1, q2, q3, q4, q5, q6, q7⟩ := (HNB.out.below Hn_6.out).cells
      go_wp2_with fail
      refine (HAL.out _ Hn_6.out).mono ?_
      rintro e w7 ⟨u7, rfl, ho7, hb7⟩
      clear q0 q1 q2 q3 q4 q5 q6 q7
      have HO7 := Lib.hid ho7
      clear ho7
      have HZ7 := Lib.hid (hb7)
      have Hn_7 := Lib.hid (Hn_6.out.trans (HZ7.out.mono Hn_6.out.size))
      have HS3_7 := Lib.hid (HS3_6.out.trans (HZ7.out.mono HS3_6.out.size))
      have HS4_7 := Lib.hid (HS4_6.out.trans (HZ7.out.mono HS4_6.out.size))
      have HS5_7 := Lib.hid (HS5_6.out.trans (HZ7.out.mono HS5_6.out.size))
      have HS6_7 := Lib.hid (HS6.out.trans (HZ7.out.mono HS6.out.size))
      clear HZ7 Hn_6 HS3_6 HS4_6 HS5_6 HS6
      have HS7 : Hid (Below w7.heap.size w7 w7) := Lib.hid (Below.refl _ _)
      clear hb7
      obtain ⟨q0, q1, q2, q3, q4, q5, q6, q7⟩ := (HNB.out.below Hn_7.out).cells
      go_wp2_with fail
      refine (HLF.out _ Hn_7.out).mono ?_
      rintro e w8 ⟨rfl, hb8⟩
      clear q0 q1 q2 q3 q4 q5 q6 q7
      have HZ8 := Lib.hid (hb8)
      have Hn_8 := Lib.hid (Hn_7.out.trans (HZ8.out.mono Hn_7.out.size))
      have HS3_8 := Lib.hid (HS3_7.out.trans (HZ8.out.mono HS3_7.out.size))
      have HS4_8 := Lib.hid (HS4_7.out.trans (HZ8.out.mono HS4_7.out.size))
      have HS5_8 := Lib.hid (HS5_7.out.trans (HZ8.out.mono HS5_7.out.size))
      have HS6_8 := Lib.hid (HS6_7.out.trans (HZ8.out.mono HS6_7.out.size))
      have HS7_8 := Lib.hid (HS7.out.trans (HZ8.out.mono HS7.out.size))
      clear HZ8 Hn_7 HS3_7 HS4_7 HS5_7 HS6_7 HS7
      clear hb8
      clear HNX HPV HSC HAL HLF
      cases b with
      | false =>
        rw [if_neg (by decide)] at HP3 HP4 HP5
        obtain ⟨rfl, rfl⟩ := sel_none HP3.out
        obtain ⟨rfl, rfl⟩ := sel_none HP4.out
        obtain ⟨rfl, rfl⟩ := sel_none HP5.out
        have x1 := (HT3.out.later HS3_8.out).c0
        have x2 := (HT3.out.later HS3_8.out).c1
        have y1 := (HT4.out.later HS4_8.out).c0
        have y2 := (HT4.out.later HS4_8.out).c1
        have HE := Lib.hid (HB.out.trans (Hn_8.out.mono HB.out.size))
        go_wp2_with fail
        refine (HLV.out _).mono ?_
        rintro e wl ⟨rfl, hbl⟩
        have HBL := Lib.hid (HE.out.trans (hbl.mono HE.out.size))
        clear hbl
        go_wp2
        go_ret
        exact ⟨rfl, HBL.out⟩
      | true =>
        have HS := Lib.hid (HBB.out.1 rfl)
        have HLE := Lib.hid (HS.out.2.entries.leaf HS.out.1)
        have HRI := Lib.hid HS.out.2.keys.rise
        have HRP := Lib.hid (prs_rise HRI.out HLE.out.1)
        have HPL := Lib.hid (prs_len HLE.out.1)
        have HTX := Lib.hid (prs_texts HLE.out.1 HFT.out.ks)
        rw [if_pos rfl, ← tell_next HRP.out] at HP3
        rw [if_pos rfl, ← tell_prev HRP.out] at HP4
        rw [if_pos rfl, ← tell_max HRP.out] at HP5
        have HRR := Lib.hid (fun W (h : Below w1.heap.size w1 W) => rpairs_any lv nx lo hi la ak av ac ck cv cc ks vs cs W (HND.out.keep h) HLE.out.1 (by have := HS2.out; omega))
        have HRN := Lib.hid (fun u W (h : RdP W u (prs ks vs)) => rnext_any u k (prs ks vs) W h (by rw [HPL.out]; have := HS2.out; omega) HKH.out.1 HTX.out)
        have HRV := Lib.hid (fun u W (h : RdP W u (prs ks vs)) => rprev_any u k (prs ks vs) W h (by rw [HPL.out]; have := HS2.out; omega) HKH.out.1 HTX.out)
        have HRM := Lib.hid (fun u W (h : RdP W u (prs ks vs)) => rprevT_any u k (prs ks vs) W h (by rw [HPL.out]; have := HS2.out; omega) HTX.out)
        have HRC := Lib.hid (fun u W (h : RdP W u (prs ks vs)) => rscan_any u k high limit (prs ks vs) (prs ks vs) W h (fun _ => Iff.rfl) HRP.out rfl (by rw [HPL.out]; have := HS2.out; omega) HTX.out HKH.out.1 HKH.out.2 HMM.out.1 HMM.out.2)
        have HRO := Lib.hid (fun n W => rmore_any lv nx lo hi la ak av ac ck cv cc ks vs cs n high limit W HFT.out.hi HKH.out.2)
        have HMB2 := HMB.out
        rw [tell_scan, ← HRS.out] at HRC
        generalize prs ks vs = ss at *
        obtain ⟨q0, q1, q2, q3, q4, q5, q6, q7⟩ := (HNB.out.below Hn_8.out).cells
        go_wp2_with fail
        refine (HRR.out _ Hn_8.out).mono ?_
        rintro e w9 ⟨u9, rfl, ho9, hb9⟩
        clear q0 q1 q2 q3 q4 q5 q6 q7
        have HO9 := Lib.hid ho9
        clear ho9
        have HZ9 := Lib.hid (hb9)
        have Hn_9 := Lib.hid (Hn_8.out.trans (HZ9.out.mono Hn_8.out.size))
        have HS3_9 := Lib.hid (HS3_8.out.trans (HZ9.out.mono HS3_8.out.size))
        have HS4_9 := Lib.hid (HS4_8.out.trans (HZ9.out.mono HS4_8.out.size))
        have HS5_9 := Lib.hid (HS5_8.out.trans (HZ9.out.mono HS5_8.out.size))
        have HS6_9 := Lib.hid (HS6_8.out.trans (HZ9.out.mono HS6_8.out.size))
        have HS7_9 := Lib.hid (HS7_8.out.trans (HZ9.out.mono HS7_8.out.size))
        clear HZ9 Hn_8 HS3_8 HS4_8 HS5_8 HS6_8 HS7_8
        have HS9 : Hid (Below w9.heap.size w9 w9) := Lib.hid (Below.refl _ _)
        clear hb9
        go_wp2_with fail
        refine (HRN.out u9 _ (HO9.out.rd.keep HS9.out)).mono ?_
        rintro e w10 ⟨b10, p10, rfl, hp10, hb10⟩
        have HP10 := Lib.hid hp10
        clear hp10
        obtain ⟨W10, hW10⟩ : ∃ W, W = w10.alloc (.cells #[.string p10.1, .int .u64 p10.2] 37) := ⟨_, rfl⟩
        have hx10 := boxed_below w10 (.cells #[.string p10.1, .int .u64 p10.2] 37)
        have HT10 : Hid (Two W10 w10.heap.size p10) := Lib.hid (by rw [hW10]; exact Two.new _ _)
        rw [← hW10] at hx10
        have HW10 := Lib.hid hW10
        clear hW10
        have HZ10 := Lib.hid (hb10.trans (hx10.mono hb10.size))
        have Hn_10 := Lib.hid (Hn_9.out.trans (HZ10.out.mono Hn_9.out.size))
        have HS3_10 := Lib.hid (HS3_9.out.trans (HZ10.out.mono HS3_9.out.size))
        have HS4_10 := Lib.hid (HS4_9.out.trans (HZ10.out.mono HS4_9.out.size))
        have HS5_10 := Lib.hid (HS5_9.out.trans (HZ10.out.mono HS5_9.out.size))
        have HS6_10 := Lib.hid (HS6_9.out.trans (HZ10.out.mono HS6_9.out.size))
        have HS7_10 := Lib.hid (HS7_9.out.trans (HZ10.out.mono HS7_9.out.size))
        have HS9_10 := Lib.hid (HS9.out.trans (HZ10.out.mono HS9.out.size))
        clear HZ10 Hn_9 HS3_9 HS4_9 HS5_9 HS6_9 HS7_9 HS9
        have HS10 : Hid (Below W10.heap.size W10 W10) := Lib.hid (Below.refl _ _)
        clear hb10 hx10
        go_upto_region 12 with fail
        rw [← HW10.out]
        clear HW10
        obtain ⟨rfl, rfl⟩ := sel_same HP3.out HP10.out
        go_wp2_with fail
        refine (HRV.out u9 _ (HO9.out.rd.keep HS9_10.out)).mono ?_
        rintro e w11 ⟨b11, p11, rfl, hp11, hb11⟩
        have HP11 := Lib.hid hp11
        clear hp11
        obtain ⟨W11, hW11⟩ : ∃ W, W = w11.alloc (.cells #[.string p11.1, .int .u64 p11.2] 37) := ⟨_, rfl⟩
        have hx11 := boxed_below w11 (.cells #[.string p11.1, .int .u64 p11.2] 37)
        have HT11 : Hid (Two W11 w11.heap.size p11) := Lib.hid (by rw [hW11]; exact Two.new _ _)
        rw [← hW11] at hx11
        have HW11 := Lib.hid hW11
        clear hW11
        have HZ11 := Lib.hid (hb11.trans (hx11.mono hb11.size))
        have Hn_11 := Lib.hid (Hn_10.out.trans (HZ11.out.mono Hn_10.out.size))
        have HS3_11 := Lib.hid (HS3_10.out.trans (HZ11.out.mono HS3_10.out.size))
        have HS4_11 := Lib.hid (HS4_10.out.trans (HZ11.out.mono HS4_10.out.size))
        have HS5_11 := Lib.hid (HS5_10.out.trans (HZ11.out.mono HS5_10.out.size))
        have HS6_11 := Lib.hid (HS6_10.out.trans (HZ11.out.mono HS6_10.out.size))
        have HS7_11 := Lib.hid (HS7_10.out.trans (HZ11.out.mono HS7_10.out.size))
        have HS9_11 := Lib.hid (HS9_10.out.trans (HZ11.out.mono HS9_10.out.size))
        have HS10_11 := Lib.hid (HS10.out.trans (HZ11.out.mono HS10.out.size))
        clear HZ11 Hn_10 HS3_10 HS4_10 HS5_10 HS6_10 HS7_10 HS9_10 HS10
        have HS11 : Hid (Below W11.heap.size W11 W11) := Lib.hid (Below.refl _ _)
        clear hb11 hx11
        go_upto_region 13 with fail
        rw [← HW11.out]
        clear HW11
        obtain ⟨rfl, rfl⟩ := sel_same HP4.out HP11.out
        go_wp2_with fail
        refine (HRM.out u9 _ (HO9.out.rd.keep HS9_11.out)).mono ?_
        rintro e w12 ⟨b12, p12, rfl, hp12, hb12⟩
        have HP12 := Lib.hid hp12
        clear hp12
        obtain ⟨W12, hW12⟩ : ∃ W, W = w12.alloc (.cells #[.string p12.1, .int .u64 p12.2] 37) := ⟨_, rfl⟩
        have hx12 := boxed_below w12 (.cells #[.string p12.1, .int .u64 p12.2] 37)
        have HT12 : Hid (Two W12 w12.heap.size p12) := Lib.hid (by rw [hW12]; exact Two.new _ _)
        rw [← hW12] at hx12
        have HW12 := Lib.hid hW12
        clear hW12
        have HZ12 := Lib.hid (hb12.trans (hx12.mono hb12.size))
        have Hn_12 := Lib.hid (Hn_11.out.trans (HZ12.out.mono Hn_11.out.size))
        have HS3_12 := Lib.hid (HS3_11.out.trans (HZ12.out.mono HS3_11.out.size))
        have HS4_12 := Lib.hid (HS4_11.out.trans (HZ12.out.mono HS4_11.out.size))
        have HS5_12 := Lib.hid (HS5_11.out.trans (HZ12.out.mono HS5_11.out.size))
        have HS6_12 := Lib.hid (HS6_11.out.trans (HZ12.out.mono HS6_11.out.size))
        have HS7_12 := Lib.hid (HS7_11.out.trans (HZ12.out.mono HS7_11.out.size))
        have HS9_12 := Lib.hid (HS9_11.out.trans (HZ12.out.mono HS9_11.out.size))
        have HS10_12 := Lib.hid (HS10_11.out.trans (HZ12.out.mono HS10_11.out.size))
        have HS11_12 := Lib.hid (HS11.out.trans (HZ12.out.mono HS11.out.size))
        clear HZ12 Hn_11 HS3_11 HS4_11 HS5_11 HS6_11 HS7_11 HS9_11 HS10_11 HS11
        have HS12 : Hid (Below W12.heap.size W12 W12) := Lib.hid (Below.refl _ _)
        clear hb12 hx12
        go_upto_region 14 with fail
        rw [← HW12.out]
        clear HW12
        obtain ⟨rfl, rfl⟩ := sel_same HP5.out HP12.out
        go_wp2_with fail
        refine (HRC.out u9 _ (HO9.out.rd.keep HS9_12.out)).mono ?_
        rintro e w13 ⟨u13, rfl, ho13, hb13⟩
        have HO13 := Lib.hid ho13
        clear ho13
        have HZ13 := Lib.hid (hb13)
        have Hn_13 := Lib.hid (Hn_12.out.trans (HZ13.out.mono Hn_12.out.size))
        have HS3_13 := Lib.hid (HS3_12.out.trans (HZ13.out.mono HS3_12.out.size))
        have HS4_13 := Lib.hid (HS4_12.out.trans (HZ13.out.mono HS4_12.out.size))
        have HS5_13 := Lib.hid (HS5_12.out.trans (HZ13.out.mono HS5_12.out.size))
        have HS6_13 := Lib.hid (HS6_12.out.trans (HZ13.out.mono HS6_12.out.size))
        have HS7_13 := Lib.hid (HS7_12.out.trans (HZ13.out.mono HS7_12.out.size))
        have HS9_13 := Lib.hid (HS9_12.out.trans (HZ13.out.mono HS9_12.out.size))
        have HS10_13 := Lib.hid (HS10_12.out.trans (HZ13.out.mono HS10_12.out.size))
        have HS11_13 := Lib.hid (HS11_12.out.trans (HZ13.out.mono HS11_12.out.size))
        have HS12_13 := Lib.hid (HS12.out.trans (HZ13.out.mono HS12.out.size))
        clear HZ13 Hn_12 HS3_12 HS4_12 HS5_12 HS6_12 HS7_12 HS9_12 HS10_12 HS11_12 HS12
        have HS13 : Hid (Below w13.heap.size w13 w13) := Lib.hid (Below.refl _ _)
        clear hb13
        have x0 := (HT3.out.later HS3_13.out).c0
        have y0 := (HT3.out.later HS3_13.out).c1
        have x1 := (HT10.out.later HS10_13.out).c0
        have y1 := (HT10.out.later HS10_13.out).c1
        have x2 := (HT4.out.later HS4_13.out).c0
        have y2 := (HT4.out.later HS4_13.out).c1
        have x3 := (HT11.out.later HS11_13.out).c0
        have y3 := (HT11.out.later HS11_13.out).c1
        have x4 := (HT5.out.later HS5_13.out).c0
        have y4 := (HT5.out.later HS5_13.out).c1
        have x5 := (HT12.out.later HS12_13.out).c0
        have y5 := (HT12.out.later HS12_13.out).c1
        obtain ⟨q0, q1, q2, q3, q4, q5, q6, q7⟩ := (HNB.out.below Hn_13.out).cells
        go_wp2_with fail
        refine (HRR.out _ Hn_13.out).mono ?_
        rintro e w14 ⟨u14, rfl, ho14, hb14⟩
        clear q0 q1 q2 q3 q4 q5 q6 q7
        clear x0 y0 x1 y1 x2 y2 x3 y3 x4 y4 x5 y5
        have HO14 := Lib.hid ho14
        clear ho14
        have HZ14 := Lib.hid (hb14)
        have Hn_14 := Lib.hid (Hn_13.out.trans (HZ14.out.mono Hn_13.out.size))
        have HS3_14 := Lib.hid (HS3_13.out.trans (HZ14.out.mono HS3_13.out.size))
        have HS4_14 := Lib.hid (HS4_13.out.trans (HZ14.out.mono HS4_13.out.size))
        have HS5_14 := Lib.hid (HS5_13.out.trans (HZ14.out.mono HS5_13.out.size))
        have HS6_14 := Lib.hid (HS6_13.out.trans (HZ14.out.mono HS6_13.out.size))
        have HS7_14 := Lib.hid (HS7_13.out.trans (HZ14.out.mono HS7_13.out.size))
        have HS9_14 := Lib.hid (HS9_13.out.trans (HZ14.out.mono HS9_13.out.size))
        have HS10_14 := Lib.hid (HS10_13.out.trans (HZ14.out.mono HS10_13.out.size))
        have HS11_14 := Lib.hid (HS11_13.out.trans (HZ14.out.mono HS11_13.out.size))
        have HS12_14 := Lib.hid (HS12_13.out.trans (HZ14.out.mono HS12_13.out.size))
        have HS13_14 := Lib.hid (HS13.out.trans (HZ14.out.mono HS13.out.size))
        clear HZ14 Hn_13 HS3_13 HS4_13 HS5_13 HS6_13 HS7_13 HS9_13 HS10_13 HS11_13 HS12_13 HS13
        have HS14 : Hid (Below w14.heap.size w14 w14) := Lib.hid (Below.refl _ _)
        clear hb14
        go_wp2_with fail
        refine (rsame_any u7 u14 ss ss w14 (HO7.out.rd.keep HS7_14.out) (HO14.out.rd.keep HS14.out) true ⟨fun _ => rfl, fun _ => rfl⟩).mono ?_
        rintro e w15 ⟨rfl, hd15⟩
        have HZ15 := Lib.hid (drew_below hd15 w14.heap.size)
        have Hn_15 := Lib.hid (Hn_14.out.trans (HZ15.out.mono Hn_14.out.size))
        have HS3_15 := Lib.hid (HS3_14.out.trans (HZ15.out.mono HS3_14.out.size))
        have HS4_15 := Lib.hid (HS4_14.out.trans (HZ15.out.mono HS4_14.out.size))
        have HS5_15 := Lib.hid (HS5_14.out.trans (HZ15.out.mono HS5_14.out.size))
        have HS6_15 := Lib.hid (HS6_14.out.trans (HZ15.out.mono HS6_14.out.size))
        have HS7_15 := Lib.hid (HS7_14.out.trans (HZ15.out.mono HS7_14.out.size))
        have HS9_15 := Lib.hid (HS9_14.out.trans (HZ15.out.mono HS9_14.out.size))
        have HS10_15 := Lib.hid (HS10_14.out.trans (HZ15.out.mono HS10_14.out.size))
        have HS11_15 := Lib.hid (HS11_14.out.trans (HZ15.out.mono HS11_14.out.size))
        have HS12_15 := Lib.hid (HS12_14.out.trans (HZ15.out.mono HS12_14.out.size))
        have HS13_15 := Lib.hid (HS13_14.out.trans (HZ15.out.mono HS13_14.out.size))
        have HS14_15 := Lib.hid (HS14.out.trans (HZ15.out.mono HS14.out.size))
        clear HZ15 Hn_14 HS3_14 HS4_14 HS5_14 HS6_14 HS7_14 HS9_14 HS10_14 HS11_14 HS12_14 HS13_14 HS14
        clear hd15
        go_wp2_with fail
        refine (rsame_any u6 u13 rs rs w15 (HO6.out.rd.keep HS6_15.out) (HO13.out.rd.keep HS13_15.out) true ⟨fun _ => rfl, fun _ => rfl⟩).mono ?_
        rintro e w16 ⟨rfl, hd16⟩
        have HZ16 := Lib.hid (drew_below hd16 w15.heap.size)
        have Hn_16 := Lib.hid (Hn_15.out.trans (HZ16.out.mono Hn_15.out.size))
        have HS3_16 := Lib.hid (HS3_15.out.trans (HZ16.out.mono HS3_15.out.size))
        have HS4_16 := Lib.hid (HS4_15.out.trans (HZ16.out.mono HS4_15.out.size))
        have HS5_16 := Lib.hid (HS5_15.out.trans (HZ16.out.mono HS5_15.out.size))
        have HS6_16 := Lib.hid (HS6_15.out.trans (HZ16.out.mono HS6_15.out.size))
        have HS7_16 := Lib.hid (HS7_15.out.trans (HZ16.out.mono HS7_15.out.size))
        have HS9_16 := Lib.hid (HS9_15.out.trans (HZ16.out.mono HS9_15.out.size))
        have HS10_16 := Lib.hid (HS10_15.out.trans (HZ16.out.mono HS10_15.out.size))
        have HS11_16 := Lib.hid (HS11_15.out.trans (HZ16.out.mono HS11_15.out.size))
        have HS12_16 := Lib.hid (HS12_15.out.trans (HZ16.out.mono HS12_15.out.size))
        have HS13_16 := Lib.hid (HS13_15.out.trans (HZ16.out.mono HS13_15.out.size))
        have HS14_16 := Lib.hid (HS14_15.out.trans (HZ16.out.mono HS14_15.out.size))
        clear HZ16 Hn_15 HS3_15 HS4_15 HS5_15 HS6_15 HS7_15 HS9_15 HS10_15 HS11_15 HS12_15 HS13_15 HS14_15
        clear hd16
        have HMO := Lib.hid (fun W => HRO.out rs.length W)
        rw [← HMB.out] at HMO
        obtain ⟨o13, c13, hu13⟩ := HO13.out.rd.open
        subst hu13
        obtain ⟨q0, q1, q2, q3, q4, q5, q6, q7⟩ := (HNB.out.below Hn_16.out).cells
        go_wp2_with fail
        refine (HMO.out _).mono ?_
        rintro e w17 ⟨rfl, hb17⟩
        clear q0 q1 q2 q3 q4 q5 q6 q7
        have HZ17 := Lib.hid (hb17)
        have Hn_17 := Lib.hid (Hn_16.out.trans (HZ17.out.mono Hn_16.out.size))
        have HS3_17 := Lib.hid (HS3_16.out.trans (HZ17.out.mono HS3_16.out.size))
        have HS4_17 := Lib.hid (HS4_16.out.trans (HZ17.out.mono HS4_16.out.size))
        have HS5_17 := Lib.hid (HS5_16.out.trans (HZ17.out.mono HS5_16.out.size))
        have HS6_17 := Lib.hid (HS6_16.out.trans (HZ17.out.mono HS6_16.out.size))
        have HS7_17 := Lib.hid (HS7_16.out.trans (HZ17.out.mono HS7_16.out.size))
        have HS9_17 := Lib.hid (HS9_16.out.trans (HZ17.out.mono HS9_16.out.size))
        have HS10_17 := Lib.hid (HS10_16.out.trans (HZ17.out.mono HS10_16.out.size))
        have HS11_17 := Lib.hid (HS11_16.out.trans (HZ17.out.mono HS11_16.out.size))
        have HS12_17 := Lib.hid (HS12_16.out.trans (HZ17.out.mono HS12_16.out.size))
        have HS13_17 := Lib.hid (HS13_16.out.trans (HZ17.out.mono HS13_16.out.size))
        have HS14_17 := Lib.hid (HS14_16.out.trans (HZ17.out.mono HS14_16.out.size))
        clear HZ17 Hn_16 HS3_16 HS4_16 HS5_16 HS6_16 HS7_16 HS9_16 HS10_16 HS11_16 HS12_16 HS13_16 HS14_16
        clear hb17
        have HE := Lib.hid (HB.out.trans (Hn_17.out.mono HB.out.size))
        go_wp2_with fail
        refine (HLV.out _).mono ?_
        rintro e wl ⟨rfl, hbl⟩
        have HBL := Lib.hid (HE.out.trans (hbl.mono HE.out.size))
        clear hbl
        go_wp2
        go_ret
        exact ⟨rfl, HBL.out⟩
end Go.Proofs.Ytnlghdkgejimpaa
